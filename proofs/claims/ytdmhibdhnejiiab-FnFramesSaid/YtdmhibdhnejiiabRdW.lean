/- The walks of the reader of drawn inputs (spec.l1Rd: next, below, once, bytes, hurt): each returns, whatever the code; it writes into the reader's own block alone. -/
import Derived.Test.YtdmhibdhnejiiabVarW
import Derived.Deep.RegionHeld3
import Derived.RegionTactic
import Derived.Deep.QuietTactic
import Derived.BigQuiet
import Derived.Laws.Rows
import Derived.WalkSpells
import Derived.Maps.AppendAt
namespace Go.Proofs.Ytdmhibdhnejiiab
open Go.RowKit

/-- A slice of bytes that came in: each of its cells holds a byte, below block B. -/
def Src (w : World) (B : Nat) (a : Option Addr) (len : Nat) : Prop :=
  len ≤ 1048576 ∧ ∀ i, i < len → ∃ b off z : Nat, a = some ⟨b, off, none⟩ ∧ b < B ∧ z < 256 ∧ w.cell? ⟨b, off + i, none⟩ = some (.int .u8 (z : Int))
/-- A reader at block g, from B on, over such a slice. -/
structure Rd (w : World) (B g : Nat) (a : Option Addr) (len cap : Nat) : Prop where
  own : B ≤ g
  cells : ∃ p : Nat, p ≤ len ∧ w.heap[g]? = some (.cells #[.slice a len cap, .int .i64 (p : Int)] 61 (0, 0))
  src : Src w B a len

theorem Src.kept {w w' : World} {B : Nat} {a : Option Addr} {len : Nat} (h : Src w B a len) (hk : ∀ k, k < B → w'.heap[k]? = w.heap[k]?) : Src w' B a len :=
  ⟨h.1, fun i hi => by
    obtain ⟨b, off, z, e, hb, hz, hc⟩ := h.2 i hi
    exact ⟨b, off, z, e, hb, hz, (World.cell?_of_block (hk b hb)).trans hc⟩⟩
theorem Rd.lt {w : World} {B g : Nat} {a : Option Addr} {len cap : Nat} (h : Rd w B g a len cap) : g < w.heap.size := by
  obtain ⟨p, _, hg⟩ := h.cells
  exact (Array.getElem?_eq_some_iff.1 hg).1
/-- The reader is as it was where its block and the blocks below B are. -/
theorem Rd.kept {w w' : World} {B g : Nat} {a : Option Addr} {len cap : Nat} (h : Rd w B g a len cap) (hk : ∀ k, k < B ∨ k = g → w'.heap[k]? = w.heap[k]?) : Rd w' B g a len cap :=
  ⟨h.own, by obtain ⟨p, hp, hg⟩ := h.cells; exact ⟨p, hp, (hk g (.inr rfl)).trans hg⟩, h.src.kept fun k hk' => hk k (.inl hk')⟩
theorem Rd.grown {w w' : World} {B g : Nat} {a : Option Addr} {len cap : Nat} {row : Option Nat} (h : Rd w B g a len cap) (hg : w.grownBy w' row) (hr : ∀ k, row = some k → B ≤ k ∧ k ≠ g) : Rd w' B g a len cap :=
  h.kept fun k hk => hg.block k (by have := h.lt; have := h.own; omega) (fun e => by have := hr k e.symm; omega)

/-- What a call of the reader that yields a number leaves. -/
def Yields (m : Nat) (w : World) (B g : Nat) (a : Option Addr) (len cap : Nat) (e : Ending) (w' : World) : Prop :=
  ∃ v : Nat, v < m ∧ e = .returned (.int .i64 (v : Int)) ∧ w.grownBy w' (some g) ∧ Rd w' B g a len cap

theorem grownBy_set (w : World) (n : Nat) (g i : Nat) (v : Value) (m : Nat) : w.grownBy (((w.drewN n).setCell ⟨g, i, none⟩ v).drewN m) (some g) :=
  ⟨rfl, rfl, rfl, by show w.heap.size ≤ ((w.drewN n).setCell ⟨g, i, none⟩ v).heap.size; simp [World.setCell], fun k hk hne => by
    show ((w.drewN n).setCell ⟨g, i, none⟩ v).heap[k]? = _
    rw [heap_setCell_other _ _ _ _ (fun e => hne (by rw [e]))]
    rfl⟩

theorem next_end {w : World} {B g b off : Nat} {len cap p z n m : Nat} (h : Rd w B g (some ⟨b, off, none⟩) len cap) (hg : w.heap[g]? = some (.cells #[.slice (some ⟨b, off, none⟩) len cap, .int .i64 (p : Int)] 61 (0, 0))) (hlt : p < len) (hz : z < 256) :
    Yields 256 w B g (some ⟨b, off, none⟩) len cap (.returned (.int .i64 (z : Int))) (((w.drewN n).setCell ⟨g, 1, none⟩ (.int .i64 ((p : Int) + 1))).drewN m) := by
  refine ⟨z, hz, rfl, grownBy_set w n g 1 _ m, h.own, ⟨p + 1, hlt, ?_⟩, h.src.kept fun k hk => ?_⟩
  · show ((w.drewN n).setCell ⟨g, 1, none⟩ (.int .i64 ((p : Int) + 1))).heap[g]? = _
    rw [heap_setCell_same (w.drewN n) g 1 _ _ _ hg]
    rfl
  · show ((w.drewN n).setCell ⟨g, 1, none⟩ (.int .i64 ((p : Int) + 1))).heap[k]? = _
    rw [heap_setCell_other _ _ _ _ (by have := h.own; show k ≠ g; omega)]
    rfl

set_option maxRecDepth 100000 in
theorem next (w : World) (B g : Nat) (a : Option Addr) (len cap : Nat) (h : Rd w B g a len cap) :
    Calls Try.prog 44 #[.pointer (some ⟨g, 0, none⟩)] w (Yields 256 w B g a len cap) := by
  obtain ⟨p, hp, hg⟩ := h.cells
  have hc0 : w.cell? ⟨g, 0, none⟩ = some (.slice a len cap) := cell_of_row _ _ _ _ _ _ hg
  have hc1 : w.cell? ⟨g, 1, none⟩ = some (.int .i64 (p : Int)) := cell_of_row _ _ _ _ _ _ hg
  have hf : w.frozen? ⟨g, 1, none⟩ = false := frozen_of_row _ _ _ _ _ hg
  by_cases hlt : p < len
  · obtain ⟨b, off, z, rfl, hb, hz, hc⟩ := h.src.2 p hlt
    have hbg : b ≠ g := by have := h.own; omega
    have hlen := h.src.1
    have HG := Lib.hid hg
    have HH := Lib.hid h
    clear hg h
    go_enter Try.func44, Try.ntmps44
    go_wp2
    go_quiet (fail)
    go_wp2
    go_quiet (fail)
    go_wp2
    go_ret
    exact next_end HH.out HG.out hlt hz
  · clear hf
    go_enter Try.func44, Try.ntmps44
    go_wp2
    go_quiet (fail)
    go_wp2
    go_ret
    exact ⟨0, by omega, rfl, ⟨rfl, rfl, rfl, Nat.le_refl _, fun _ _ _ => rfl⟩, h.kept fun _ _ => rfl⟩

theorem Yields.trans {m n : Nat} {w w1 w2 : World} {B g : Nat} {a : Option Addr} {len cap : Nat} {e : Ending} (h : w.grownBy w1 (some g)) (h2 : Yields m w1 B g a len cap e w2) (hmn : m ≤ n) : Yields n w B g a len cap e w2 := by
  obtain ⟨v, hv, he, hg, hr⟩ := h2
  exact ⟨v, by omega, he, h.trans hg, hr⟩

theorem v_mod (v n : Nat) : Ending.returned (.int .i64 ((v : Int) % (n : Int))) = .returned (.int .i64 ((v % n : Nat) : Int)) := by rw [Int.natCast_emod]

set_option maxRecDepth 100000 in
theorem below (w : World) (B g : Nat) (a : Option Addr) (len cap : Nat) (h : Rd w B g a len cap) (n : Nat) (hn : 0 < n) (hn2 : n ≤ 65536) :
    Calls Try.prog 29 #[.pointer (some ⟨g, 0, none⟩), .int .i64 (n : Int)] w (Yields n w B g a len cap) := by
  by_cases h1 : n ≤ 1
  · obtain rfl : n = 1 := by omega
    go_enter Try.func29, Try.ntmps29
    go_wp2
    go_ret
    exact ⟨0, by omega, rfl, World.grownBy.refl _ _, h⟩
  · by_cases h2 : n ≤ 256
    · go_enter Try.func29, Try.ntmps29
      go_wp2_with fail
      refine (next w B g a len cap h).mono ?_
      rintro e w1 ⟨v, hv, rfl, hg, hr⟩
      have hb1 : (0 : Int) ≤ (v : Int) := by omega
      have hb2 : (0 : Int) < (n : Int) := by omega
      go_wp2
      go_ret
      exact ⟨v % n, Nat.mod_lt _ hn, v_mod v n, hg, hr⟩
    · go_enter Try.func29, Try.ntmps29
      go_wp2_with fail
      refine (next w B g a len cap h).mono ?_
      rintro e w1 ⟨v, hv, rfl, hg, hr⟩
      go_wp2_with fail
      refine (next _ B g a len cap hr).mono ?_
      rintro e w2 ⟨u, hu, rfl, hg2, hr2⟩
      have hb2 : (0 : Int) < (n : Int) := by omega
      go_wp2
      go_ret
      refine ⟨(v * 256 + u) % n, Nat.mod_lt _ hn, ?_, hg.trans hg2, hr2⟩
      rw [← v_mod]
      simp
theorem belowI (w : World) (B g : Nat) (a : Option Addr) (len cap : Nat) (h : Rd w B g a len cap) (x : Int) (h0 : 0 < x) (h1 : x ≤ 65536) :
    Calls Try.prog 29 #[.pointer (some ⟨g, 0, none⟩), .int .i64 x] w (Yields x.toNat w B g a len cap) := by
  obtain ⟨n, rfl⟩ := Int.eq_ofNat_of_zero_le (Int.le_of_lt h0)
  exact below w B g a len cap h n (by omega) (by omega)
/-- What a call of the reader that yields a text leaves. -/
def YieldsStr (m : Nat) (w : World) (B g : Nat) (a : Option Addr) (len cap : Nat) (e : Ending) (w' : World) : Prop :=
  ∃ s : ByteArray, s.size ≤ m ∧ e = .returned (.string s) ∧ w.grownBy w' (some g) ∧ Rd w' B g a len cap
theorem grownBy_own {w w1 w2 : World} {g : Nat} {row : Option Nat} (h : w.grownBy w1 (some g)) (h2 : w1.grownBy w2 row) (hr : ∀ k, row = some k → w.heap.size ≤ k) : w.grownBy w2 (some g) :=
  ⟨h2.os.trans h.os, h2.tape.trans h.tape, h2.output.trans h.output, Nat.le_trans h.size h2.size, fun k hk hne =>
    (h2.block k (Nat.lt_of_lt_of_le hk h.size) (fun e => by have := hr k e.symm; omega)).trans (h.block k hk hne)⟩

theorem run_own_any {P : Program} {w : World} {base src dst e : Nat} {v : Value} {n : Nat} {xs : List Int} (hs : P.underlying src = some (.slice e)) (he : P.underlying e = some (.int .u8)) (hd : P.underlying dst = some .string)
    (h : w.ownsRow base e 1 v n (xs.map (Value.int .u8))) : (convert src dst v).run P w = .ok (.string (strOfNums xs)) w := by
  by_cases hn : 0 < n
  · exact run_own_string hs he hd h hn
  · have hl : xs.length = n := by have := h.1; simpa using this
    have hx : xs = [] := List.eq_nil_of_length_eq_zero (by omega)
    subst hx
    obtain rfl : n = 0 := by omega
    rcases h.2 with ⟨rfl, _⟩ | ⟨g, cap, cur, rfl, _⟩
    · exact run_convert_bytes_nil w src e hs he 0 0 dst hd
    · exact run_convert_bytes_arg w src e hs he g 0 0 cap [] rfl (fun i hi => by omega) dst hd

set_option maxRecDepth 100000 in
set_option maxHeartbeats 400000 in
theorem bytes (w : World) (B g : Nat) (a : Option Addr) (len cap : Nat) (h : Rd w B g a len cap) (m : Nat) (hm : m ≤ 60000) :
    Calls Try.prog 32 #[.pointer (some ⟨g, 0, none⟩), .int .i64 (m : Int)] w (YieldsStr m w B g a len cap) := by
  obtain ⟨i0, hi, hz0, hz1, hz2⟩ := info_parts Try.infoU8
  have hgw := h.lt
  have hr0 := Lib.hid (h.grown (World.grownBy_alloc w (.cells #[] 5) none) (fun k hk => by cases hk))
  have h0 := Lib.hid h
  clear h
  go_enter Try.func32, Try.ntmps32
  go_wp2_with fail
  refine (belowI _ B g a len cap hr0.out _ (by omega) (by omega)).mono ?_
  rintro e w1 ⟨k0, hk0, rfl, hg1, hr1⟩
  have hg01 : w.grownBy w1 (some g) := (World.grownBy_alloc w (.cells #[] 5) (some g)).trans hg1
  have ho1 : w1.ownsRow w.heap.size 5 1 (.slice (some ⟨w.heap.size, 0, none⟩) 0 0) 0 [] :=
    (World.ownsRow_made w #[] 0 (Nat.le_refl _) (by unfold maxLen; omega) rfl).kept hg1 (.inr (by simp [Value.ownBlock]; omega))
  have hk1 : k0 ≤ m := by omega
  clear hk0 hg1
  go_wp2
  go_loopw [5, 6] (fun v i wr => ∃ (k : Nat) (xs : List Int), i = .int .i64 k ∧ xs.length + k ≤ m ∧ wr.ownsRow w.heap.size 5 1 v xs.length (xs.map (Value.int .u8)) ∧ w.grownBy wr (some g) ∧ Rd wr B g a len cap)
    (fun _ i _ => (intOf i).toNat)
  case atStart => exact ⟨k0, [], rfl, by simpa using hk1, ho1, hg01, hr1⟩
  case round =>
    obtain ⟨k, xs, rfl, hlen, hown, hgr, hrd⟩ := hrel
    have hB : w.heap.size ≤ wr.heap.size := hgr.size
    by_cases hlt : 0 < k
    · have HO := Lib.hid hown
      have HG := Lib.hid hgr
      have HR := Lib.hid hrd
      have hlt' : (0 : Int) < (k : Int) := by omega
      clear hown hgr hrd hg01 ho1 hr1
      go_wp2_with fail
      refine (belowI _ B g a len cap HR.out 256 (by omega) (by omega)).mono ?_
      rintro e w2 ⟨z, hz, rfl, hg2, hr2⟩
      have hz' : z < 256 := hz
      have hown2 := HO.out.kept hg2 (by
        rcases hu : Value.ownBlock _ with _ | j
        · exact .inl rfl
        · exact .inr (fun e => by have := (HO.out.lt j hu).1; have : j = g := by simpa using e
                                  omega))
      have hgr2 := HG.out.trans hg2
      have hB2 : w.heap.size ≤ w2.heap.size := hgr2.size
      have hbz : (z : Int) < 256 := by omega
      clear hg2 HO HG HR hz
      go_wp2_with (at_builtin; refine wpList_append_own _ rfl _ _ 29 rfl w.heap.size 5 i0 (.int .u8 0) 1 1 Try.underlying29 hi hz0 hz1 hz2 rfl (by decide) _ _ _ rfl (hown2.alloc _) ⟨w2.heap.size, 0, none⟩ 1 1 [.int .u8 (z : Int)] rfl rfl ?c1 ?c2 ?c3 ?c4 ?c5 ?_)
      case c1 =>
        intro j u hj
        match j, hj with
        | 0, hj => simp at hj; subst hj; simp [Addr.add]
      case c2 => intro u hu; simp at hu; subst hu; rfl
      case c3 => unfold maxLen; omega
      case c4 => omega
      case c5 => simp; omega
      intro v' w3 hown3 hgrow3 _
      have hgr3 := grownBy_own (grownBy_own hgr2 (World.grownBy_alloc w2 _ none) (fun k hk => by cases hk)) hgrow3 (fun j hj => (hown2.lt j hj).1)
      have hr3 := (hr2.grown (World.grownBy_alloc w2 _ none) (fun k hk => by cases hk)).grown hgrow3 (fun j hj => by have h1 := (hown2.lt j hj).1; have h2 := hr2.own; exact ⟨by omega, by omega⟩)
      have HO3 := Lib.hid (p := w3.ownsRow w.heap.size 5 1 v' (xs ++ [(z : Int)]).length ((xs ++ [(z : Int)]).map (Value.int .u8))) (by simpa using hown3)
      have HG3 := Lib.hid hgr3
      have HR3 := Lib.hid hr3
      clear hown3 hgrow3 hown2 hgr2 hr2 hgr3 hr3
      go_wp2
      go_roundw
      case rel => exact ⟨k - 1, xs ++ [(z : Int)], by go_num, by simp; omega, HO3.out, HG3.out, HR3.out⟩
      case measure => simp [intOf]; omega
    · have hcv := run_own_any Try.underlying29 Try.underlying5 Try.underlying9 hown
      go_wp2
      go_ret
      exact ⟨strOfNums xs, by rw [strOfNums_size]; omega, rfl, hgr, hrd⟩
end Go.Proofs.Ytdmhibdhnejiiab
