/- Walks and mathematics that several claims share, part 34. -/
import Derived.Test.YthkagbnpcjidfaaGreatDoorGu33
import Derived.Deep.Cut
import Derived.Lib.Hide
namespace Go.Proofs.YthkagbnpcjidfaaGreatDoor
set_option maxRecDepth 100000
open Go.RowKit
set_option linter.unusedVariables false
set_option linter.unusedSimpArgs false
def gOf (c : Int) : Nat := if c = 1 then 0 else if c = 2 then 2 else if c = 3 then 3 else 4
theorem aG8 (c : Int) : gOf c < 5 := by
 unfold gOf
 split
 ·decide
 ·split
  ·decide
  ·split <;> decide
structure eG (w : World) (B : Nat) (E : Int → Addr) : Prop where
 low : 5 ≤ B
 cells : ∀ c, 1 ≤ c → c ≤ 4 → w.cell? ⟨gOf c, 0, none⟩ = some (.iface 226 (.pointer (some (E c))))
 lies : ∀ c, 1 ≤ c → c ≤ 4 → (E c).block < B ∧ ∃ ca ta, w.heap[(E c).block]? = some (.cells ca ta (0, 0))
 ne : ∀ c d, 1 ≤ c → c ≤ 4 → 1 ≤ d → d ≤ 4 → c ≠ d → E c ≠ E d
 typ : w.cell? ⟨1, 0, none⟩ = some (.iface 154 (.agg #[.pointer (some ⟨5, 63, none⟩)]))
theorem eG.below {w w' : World} {B B' : Nat} {E : Int → Addr} (h : eG w B E) (hb : Below B' w w') (hB : B ≤ B') : eG w' B E := by
 have hl := h.low
 refine ⟨h.low, fun c h1 h2 => ?_, fun c h1 h2 => ?_, h.ne, ?_⟩
 ·have := aG8 c
  exact (World.cell?_of_block (a := ⟨gOf c, 0, none⟩) (hb.block _ (by show gOf c < B'; omega))).trans (h.cells c h1 h2)
 ·obtain ⟨a, ca, ta, hc⟩ := h.lies c h1 h2
  exact ⟨a, ca, ta, (hb.block _ (by omega)).trans hc⟩
 ·exact (World.cell?_of_block (a := ⟨1, 0, none⟩) (hb.block _ (by show 1 < B'; omega))).trans h.typ
def kM (E : Int → Addr) (c : Int) : Value := if c = 0 then .nilIface else .iface 226 (.pointer (some (E c)))
set_option maxHeartbeats 20000000 in
theorem aKq (w : World) (B : Nat) (E : Int → Addr) (h : eG w B E) (pb po : Nat) (c : Int) (h1 : 1 ≤ c) (h2 : c ≤ 4) (hc : w.cell? ⟨pb, po + 2, none⟩ = some (kM E c)) :
  Calls Tryz.prog 44 #[.iface 66 (.pointer (some ⟨pb, po, none⟩))] w fun e w' => e = .returned (.int .i64 c) ∧ w' = w := by
 have bW : w.cell? ⟨pb, po + 2, none⟩ = some (.iface 226 (.pointer (some (E c)))) := by
  rw [hc]; unfold kM; rw [if_neg (by omega)]
 have g2 : w.cell? ⟨2, 0, none⟩ = some (.iface 226 (.pointer (some (E 2)))) := h.cells 2 (by omega) (by omega)
 have g3 : w.cell? ⟨3, 0, none⟩ = some (.iface 226 (.pointer (some (E 3)))) := h.cells 3 (by omega) (by omega)
 have g4 : w.cell? ⟨4, 0, none⟩ = some (.iface 226 (.pointer (some (E 4)))) := h.cells 4 (by omega) (by omega)
 have HN : ∀ d : Int, 1 ≤ d → d ≤ 4 → c ≠ d → Calls Tryz.prog 84 #[.iface 66 (.pointer (some ⟨pb, po, none⟩)), .iface 226 (.pointer (some (E d)))] w (fun e w' => e = .returned (.bool false) ∧ w' = w) := by
  intro d h3 h4 bO
  obtain ⟨_, ca, ta, ha⟩ := h.lies c h1 h2; obtain ⟨_, cb, tb, hb⟩ := h.lies d h3 h4; exact aKm pb po (E d) (E c) ca cb ta tb w bW (h.ne c d h1 h2 h3 h4 bO) ha hb
 have HY := aLh pb po (E c) w bW
 have HN := aPo HN
 have HY := aPo HY
 clear hc bW
 go_enter Tryz.func44, Tryz.ntmps44
 by_cases e2 : c = 2
 ·subst e2
  go_wp2_with fail
  refine HY.out.mono ?_
  rintro e w1 ⟨rfl, rfl⟩; go_wp2
  go_ret
  exact ⟨rfl, rfl⟩
 go_wp2_with fail
 refine (HN.out 2 (by omega) (by omega) e2).mono ?_
 rintro e w1 ⟨rfl, rfl⟩
 by_cases e3 : c = 3
 ·subst e3
  go_wp2_with fail
  refine HY.out.mono ?_
  rintro e w1 ⟨rfl, rfl⟩; go_wp2
  go_ret
  exact ⟨rfl, rfl⟩
 go_wp2_with fail
 refine (HN.out 3 (by omega) (by omega) e3).mono ?_
 rintro e w1 ⟨rfl, rfl⟩
 by_cases e4 : c = 4
 ·subst e4
  go_wp2_with fail
  refine HY.out.mono ?_
  rintro e w1 ⟨rfl, rfl⟩; go_wp2
  go_ret
  exact ⟨rfl, rfl⟩
 go_wp2_with fail
 refine (HN.out 4 (by omega) (by omega) e4).mono ?_
 rintro e w1 ⟨rfl, rfl⟩
 obtain rfl : c = 1 := by omega
 go_wp2
 go_ret
 exact ⟨rfl, rfl⟩
end Go.Proofs.YthkagbnpcjidfaaGreatDoor
