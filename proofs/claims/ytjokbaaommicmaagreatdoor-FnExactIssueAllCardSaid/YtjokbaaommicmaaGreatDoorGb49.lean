/- Walks and mathematics that several claims share, part 49. -/
import Derived.Test.YtjokbaaommicmaaGreatDoorGb39
import Derived.Test.YtjokbaaommicmaaGreatDoorGb29
import Derived.Test.YtjokbaaommicmaaGreatDoorGb43
import Derived.Test.YtjokbaaommicmaaGreatDoorGb8
import Derived.Test.YtjokbaaommicmaaGreatDoorGb28
import Derived.Test.YtjokbaaommicmaaGreatDoorGb10
import Derived.Test.YtjokbaaommicmaaGreatDoorGb44
import Derived.Test.YtjokbaaommicmaaGreatDoorGb42
import Derived.Deep.Cut
import Derived.Deep.RegionHeld
import Derived.Lib.Hide
import Derived.Test.YtjokbaaommicmaaGreatDoorGbA
namespace Go.Proofs.YtjokbaaommicmaaGreatDoor
set_option maxRecDepth 100000
open Go.RowKit
set_option linter.unusedVariables false
set_option linter.unusedSimpArgs false

/-- What a change answers: an error, or a cart of the call's own. -/
def ChP (E : Int → Addr) (r : Int × List Int × List OpV) (w : World) (e : Ending) (w' : World) : Prop :=
 (r.1 ≠ 0 ∧ e = .returned (.tuple #[.agg #[.slice none 0 0, .slice none 0 0], errV E r.1]) ∧ Below w.heap.size w w') ∨
 (r.1 = 0 ∧ ∃ va vc oa oc mid, e = .returned (.tuple #[.agg #[.slice va r.2.1.length vc, .slice oa r.2.2.length oc], .nilIface]) ∧ Own w' w.heap.size mid va r.2.1.length r.2.1 ∧ OwnOps w' mid w'.heap.size oa r.2.2.length r.2.2 ∧ w.heap.size ≤ mid ∧ mid ≤ w'.heap.size ∧ Caps va r.2.1.length vc ∧ Caps oa r.2.2.length oc ∧ Below w.heap.size w w')
theorem errV_4 (E : Int → Addr) : errV E 4 = .iface 240 (.pointer (some (E 4))) := by unfold errV; rw [if_neg (by decide)]
theorem gErr4 {w : World} {B : Nat} {E : Int → Addr} (h : Errs w B E) : w.cell? ⟨4, 0, none⟩ = some (.iface 240 (.pointer (some (E 4)))) := h.cells 4 (by omega) (by omega)
theorem gErr2 {w : World} {B : Nat} {E : Int → Addr} (h : Errs w B E) : w.cell? ⟨2, 0, none⟩ = some (.iface 240 (.pointer (some (E 2)))) := h.cells 2 (by omega) (by omega)
theorem putf_set3 {w w1 : World} {x y z : Array Value} (h : PutF w w1 x y z) (u0 u1 u2 : Value) : PutF w (((w1.setCell ⟨w.heap.size + 1, 0, none⟩ u0).setCell ⟨w.heap.size + 1, 1, none⟩ u1).setCell ⟨w.heap.size + 1, 2, none⟩ u2) x (((y.setIfInBounds 0 u0).setIfInBounds 1 u1).setIfInBounds 2 u2) z := ((h.put 0 u0).put 1 u1).put 2 u2
set_option maxHeartbeats 40000000 in
theorem insertedNo (w : World) (B : Nat) (E : Int → Addr) (hE : Errs w B E) (g off : Nat) (ao : Option Addr) (cv no co d : Nat) (xs : List Int) (l : List OpV) (o : OpV) (hx : Ints w B (some ⟨g, off, none⟩) 4 xs) (h : Ops w B ao no l) (hB : B ≤ w.heap.size) (hcv : 4 ≤ cv) (hco : Caps ao no co) (hc : cartB xs l = true) (hd : d < 4) (hi : o.item.size ≤ 1048576) (hok : (nextOp xs l d o).ok = false) :
  Calls Tryz.prog 122 #[.agg #[.slice (some ⟨g, off, none⟩) 4 cv, .slice ao no co], .int .i64 (d : Int), .agg #[.int .i64 o.dev, .int .i64 o.seq, .int .i64 o.stamp, .int .i64 o.kind, .string o.item, .int .i64 o.qty, .int .i64 o.level, .int .i64 o.undos]] w (ChP E (4, [], []) w) := by
 obtain ⟨hxl, hxa⟩ := cart_vecs hc
 obtain ⟨hx0, hx1⟩ := hxa d hd
 have hno : no ≤ 160 := by rw [← h.1]; exact cart_length hc
 have hst : ∀ i, i < l.length → (atOp l i).stamp ≤ 200000 := fun i hi' => by
  have h2 := (op_bounds (cart_op hc hi')).2.2.2.1
  omega
 have HM : Hid (∀ i, i < no → (l.getD i OpV.zero).item.size ≤ 1048576) := fun i hi' => by
  have h2 := (op_bounds (cart_op hc (i := i) (by rw [h.1]; exact hi'))).2.2.2.2.1
  have e : atOp l i = l.getD i OpV.zero := rfl
  rw [← e]
  omega
 have hS0 := stampTo_pos l l.length
 have hS1 := stampTo_le (N := 200000) (by omega) hst l.length (Nat.le_refl _)
 have hT := PutF.mk0 w #[.slice (some ⟨g, off, none⟩) 4 cv, .slice ao no co] #[.int .i64 o.dev, .int .i64 o.seq, .int .i64 o.stamp, .int .i64 o.kind, .string o.item, .int .i64 o.qty, .int .i64 o.level, .int .i64 o.undos] #[.slice none 0 0, .slice none 0 0]
 have HV := Lib.hid (hx.below hT.bel hB)
 have HO := Lib.hid (h.below hT.bel hB)
 have HE := Lib.hid (hE.below hT.bel hB)
 have HT := Lib.hid hT
 have HLo := Lib.hid h.1
 have HCO := Lib.hid hco
 have HC := Lib.hid hc
 have HOK : Hid (opB (d : Int) (xs.getD d 0 + 1) (stampTo l l.length + 1) o.kind o.item o.qty o.level o.undos = false) := hok
 have HNX : Hid (nextOp xs l d o = ⟨(d : Int), xs.getD d 0 + 1, stampTo l l.length + 1, o.kind, o.item, o.qty, o.level, o.undos⟩) := rfl
 have HPV : Hid (putV xs d = xs.set d (xs.getD d 0 + 1)) := rfl
 have hE5 := hE.low
 clear hx h hT hst hok hco hE hc hxa
 go_enter Tryz.func122, Tryz.ntmps122
 go_upto_region 1 with fail
 rename_i KR hKR
 generalize ((w.alloc (.cells #[.slice (some ⟨g, off, none⟩) 4 cv, .slice ao no co] 32)).alloc (.cells #[.int .i64 o.dev, .int .i64 o.seq, .int .i64 o.stamp, .int .i64 o.kind, .string o.item, .int .i64 o.qty, .int .i64 o.level, .int .i64 o.undos] 93)).alloc (.cells #[.slice none 0 0, .slice none 0 0] 32) = w0 at HV HO HE HT ⊢
 obtain ⟨b, off', he, hb, hc⟩ := HV.out.2 d hd
 injection he with he
 injection he with he1 he2
 subst he1 he2
 obtain ⟨x, hxe⟩ : ∃ x, x = xs.getD d 0 := ⟨_, rfl⟩
 obtain ⟨S, hse⟩ : ∃ S, S = stampTo l l.length := ⟨_, rfl⟩
 rw [← hxe, ← hse] at HOK HNX
 rw [← hxe] at hc hx0 hx1 HPV
 rw [← hse] at hS0 hS1
 have HSE := Lib.hid hse
 have HXE := Lib.hid hxe
 clear hxe hse
 have hdi : (d : Int) < 4 := by omega
 have hs0 := HT.out.lt
 have hwx : IntKind.i64.wrap (x + 1) = x + 1 := IntWalk.i64_in _ (by omega)
 have hws : IntKind.i64.wrap (S + 1) = S + 1 := IntWalk.i64_in _ (by omega)
 have hS : w0.cell? ⟨w.heap.size, 0, none⟩ = some (.slice (some ⟨g, off, none⟩) 4 cv) ∧ w0.cell? ⟨w.heap.size, 1, none⟩ = some (.slice ao no co) ∧ w0.cell? ⟨g, off + d, none⟩ = some (.int .i64 x) := ⟨(pair_cells HT.out.fst).1, (pair_cells HT.out.fst).2, hc⟩
 refine wp_region_held_drew (S := fun w' => w'.cell? ⟨w.heap.size, 0, none⟩ = some (.slice (some ⟨g, off, none⟩) 4 cv) ∧ w'.cell? ⟨w.heap.size, 1, none⟩ = some (.slice ao no co) ∧ w'.cell? ⟨g, off + d, none⟩ = some (.int .i64 x)) (by kernel_rfl) hS (fun hHeld => ?_)
 have HBz : Hid (Below w0.heap.size w0 w0.drew) := ⟨rfl, rfl, rfl, Nat.le_refl _, fun _ _ => rfl⟩
 generalize w0.drew = z0 at HBz hHeld ⊢
 refine tk 0 ⟨some 9, .move (.tmp 1), 2, "l06_commands.go:135", #[], none⟩ ?_
 (try simp only [Act.put, u1, u2, u3])
 refine tk 1 ⟨some 10, .fieldAddr 32 (.tmp 3) 0, 0, "l06_commands.go:135", #[{ on := 12, ground := Ground.gcOnly Departure.lateStores }], none⟩ ?_
 (try simp only [Act.put, u1, u2, u3])
 refine tk 2 ⟨some 11, .load 22 (.tmp 10), 22, "l06_commands.go:135", #[⟨1, .data⟩, { on := 12, ground := Ground.gcOnly Departure.lateStores }], none⟩ ?_
 (try simp only [Act.put, u1, u2, u3])
 refine tk 3 ⟨some 12, .move (.tmp 1), 2, "l06_commands.go:135", #[{ on := 12, ground := Ground.gcOnly Departure.lateStores }], none⟩ ?_
 (try simp only [Act.put, u1, u2, u3])
 refine tk 4 ⟨some 13, .indexAddr 22 (.tmp 11) (.tmp 12), 0, "l06_commands.go:135", #[⟨2, .data⟩, ⟨3, .data⟩, { on := 12, ground := Ground.gcOnly Departure.lateStores }], none⟩ ?_
 (try simp only [Act.put, u1, u2, u3])
 refine tk 5 ⟨some 14, .load 2 (.tmp 13), 2, "l06_commands.go:135", #[⟨4, .data⟩, { on := 12, ground := Ground.gcOnly Departure.lateStores }], none⟩ ?_
 (try simp only [Act.put, u1, u2, u3])
 refine tk 6 ⟨some 15, .binOp .add 2 (.tmp 14) (.const (Value.int IntKind.i64 1)) 2, 2, "l06_commands.go:135", #[⟨5, .data⟩, { on := 12, ground := Ground.gcOnly Departure.lateStores }], none⟩ ?_
 (try simp only [Act.put, u1, u2, u3])
 refine tk 7 ⟨some 16, .fieldAddr 32 (.tmp 3) 1, 0, "l06_commands.go:135", #[], none⟩ ?_
 (try simp only [Act.put, u1, u2, u3])
 refine tk 8 ⟨some 17, .load 30 (.tmp 16), 30, "l06_commands.go:135", #[⟨7, .data⟩], none⟩ ?_
 (try simp only [Act.put, u1, u2, u3])
 refine tk 11 ⟨some 20, .fieldAddr 93 (.tmp 5) 0, 0, "l06_commands.go:135", #[⟨0, .phase⟩, ⟨1, .textOnly .lateStores⟩, ⟨2, .textOnly .lateStores⟩, ⟨3, .textOnly .lateStores⟩, ⟨4, .textOnly .lateStores⟩, ⟨5, .textOnly .lateStores⟩, ⟨6, .textOnly .lateStores⟩, ⟨7, .textOnly .lateStores⟩, ⟨8, .textOnly .lateStores⟩, ⟨9, .textOnly .lateStoresUnsure⟩, ⟨10, .textOnly .lateStores⟩], none⟩ ?_
 (try simp only [Act.put, u1, u2, u3])
 refine rk 9 rfl (fun K hK => ?_)
 go_simp
 go_at_call 135
 refine (lastStampW z0 B ao no co l (HO.out.below HBz.out (by omega)) (by have := HBz.out.size; omega) (by omega)).mono ?_
 rintro e z1 ⟨rfl, hbz⟩
 rw [← HSE.out]
 have HB1 : Hid (Below w0.heap.size w0 z1) := HBz.out.trans (hbz.mono HBz.out.size)
 have HT1 := Lib.hid (HT.out.next HB1.out)
 have hS1 : z1.cell? ⟨w.heap.size, 0, none⟩ = some (.slice (some ⟨g, off, none⟩) 4 cv) ∧ z1.cell? ⟨w.heap.size, 1, none⟩ = some (.slice ao no co) ∧ z1.cell? ⟨g, off + d, none⟩ = some (.int .i64 x) := ⟨(pair_cells HT1.out.fst).1, (pair_cells HT1.out.fst).2, (HB1.out.cell (p := ⟨g, off + d, none⟩) (by show g < _; omega)).trans hc⟩
 clear hbz
 refine hK.out _ _ hS1 (fun hHeld2 => ?_)
 clear hK K
 (try simp only [Act.put, u1, u2, u3])
 obtain ⟨o0, o1, o2, o3, o4, o5, o6, o7⟩ := op_cells HT1.out.snd
 obtain ⟨f0, f1, f2, f3, f4, f5, f6, f7⟩ := op_frozen HT1.out.snd
 have hSt : ∀ (W : World), (∀ k, k ≠ w.heap.size + 1 → W.heap[k]? = z1.heap[k]?) → W.cell? ⟨w.heap.size, 0, none⟩ = some (.slice (some ⟨g, off, none⟩) 4 cv) ∧ W.cell? ⟨w.heap.size, 1, none⟩ = some (.slice ao no co) ∧ W.cell? ⟨g, off + d, none⟩ = some (.int .i64 x) := fun W hW => ⟨(World.cell?_of_block (a := ⟨w.heap.size, 0, none⟩) (hW _ (by show w.heap.size ≠ w.heap.size + 1; omega))).trans hS1.1, (World.cell?_of_block (a := ⟨w.heap.size, 1, none⟩) (hW _ (by show w.heap.size ≠ w.heap.size + 1; omega))).trans hS1.2.1, (World.cell?_of_block (a := ⟨g, off + d, none⟩) (hW _ (by show g ≠ w.heap.size + 1; omega))).trans hS1.2.2⟩
 refine tk 10 ⟨some 19, .binOp .add 2 (.tmp 18) (.const (Value.int IntKind.i64 1)) 2, 2, "l06_commands.go:135", #[⟨9, .data⟩, { on := 14, ground := Ground.gcOnly Departure.lateStores }], none⟩ ?_
 (try simp only [Act.put, u1, u2, u3])
 refine rk 12 rfl (fun K hK => ?_)
 go_simp
 refine hK.out _ _ (hSt _ (fun k hk => heap_setCell_other _ _ _ _ hk)) (fun hHeld3 => ?_)
 clear hK K
 (try simp only [Act.put, u1, u2, u3])
 refine tk 13 ⟨some 21, .fieldAddr 93 (.tmp 5) 1, 0, "l06_commands.go:135", #[⟨0, .phase⟩, ⟨1, .phase⟩, ⟨2, .phase⟩, ⟨3, .phase⟩, ⟨4, .phase⟩, ⟨5, .phase⟩, ⟨6, .phase⟩, ⟨7, .textOnly .lateStores⟩, ⟨8, .textOnly .lateStores⟩, ⟨9, .textOnly .lateStoresUnsure⟩, ⟨10, .textOnly .lateStores⟩, ⟨11, .phase⟩, ⟨12, .phase⟩], none⟩ ?_
 (try simp only [Act.put, u1, u2, u3])
 refine rk 14 rfl (fun K hK => ?_)
 go_simp
 refine hK.out _ _ (hSt _ (fun k hk => (heap_setCell_other _ _ _ _ hk).trans (heap_setCell_other _ _ _ _ hk))) (fun hHeld4 => ?_)
 clear hK K
 (try simp only [Act.put, u1, u2, u3])
 refine tk 15 ⟨some 22, .fieldAddr 93 (.tmp 5) 2, 0, "l06_commands.go:135", #[⟨0, .phase⟩, ⟨1, .phase⟩, ⟨2, .phase⟩, ⟨3, .phase⟩, ⟨4, .phase⟩, ⟨5, .phase⟩, ⟨6, .phase⟩, ⟨7, .phase⟩, ⟨8, .phase⟩, ⟨9, .phase⟩, ⟨10, .phase⟩, ⟨11, .phase⟩, ⟨12, .phase⟩, ⟨13, .phase⟩, ⟨14, .phase⟩], none⟩ ?_
 (try simp only [Act.put, u1, u2, u3])
 refine rk 16 rfl (fun K hK => ?_)
 go_simp
 refine hK.out _ _ (hSt _ (fun k hk => (heap_setCell_other _ _ _ _ hk).trans ((heap_setCell_other _ _ _ _ hk).trans (heap_setCell_other _ _ _ _ hk)))) (fun hHeld5 => ?_)
 clear hK K
 (try simp only [Act.put, u1, u2, u3])
 refine wpAnyH_done (by kernel_rfl) ?_ _
 have HP4 : Hid (PutF w (((z1.setCell ⟨w.heap.size + 1, 0, none⟩ (.int .i64 (d : Int))).setCell ⟨w.heap.size + 1, 1, none⟩ (.int .i64 (x + 1))).setCell ⟨w.heap.size + 1, 2, none⟩ (.int .i64 (S + 1))) #[.slice (some ⟨g, off, none⟩) 4 cv, .slice ao no co] #[.int .i64 (d : Int), .int .i64 (x + 1), .int .i64 (S + 1), .int .i64 o.kind, .string o.item, .int .i64 o.qty, .int .i64 o.level, .int .i64 o.undos] #[.slice none 0 0, .slice none 0 0]) := putf_set3 HT1.out _ _ _
 have HB4 : Hid (Below (w.heap.size + 1) w0 (((z1.setCell ⟨w.heap.size + 1, 0, none⟩ (.int .i64 (d : Int))).setCell ⟨w.heap.size + 1, 1, none⟩ (.int .i64 (x + 1))).setCell ⟨w.heap.size + 1, 2, none⟩ (.int .i64 (S + 1)))) := ((HB1.out.mono (by omega)).trans (below_set2 _ _ _ _ _ _)).trans (below_set1 _ _ _ _)
 have HV4 := Lib.hid (HV.out.below HB4.out (by omega))
 have HO4 := Lib.hid (HO.out.below HB4.out (by omega))
 have HE4 := Lib.hid (HE.out.below HB4.out (by omega))
 clear o0 o1 o2 o3 o4 o5 o6 o7 f0 f1 f2 f3 f4 f5 f6 f7 hSt hHeld hHeld2 hHeld3 hHeld4 hHeld5 hS hS1 HT HT1 HB1 HV HO HE HB4 hc hs0
 have hl4 := HP4.out.lt
 generalize (((z1.setCell ⟨w.heap.size + 1, 0, none⟩ (.int .i64 (d : Int))).setCell ⟨w.heap.size + 1, 1, none⟩ (.int .i64 (x + 1))).setCell ⟨w.heap.size + 1, 2, none⟩ (.int .i64 (S + 1))) = w4 at HP4 HV4 HO4 HE4 hl4 ⊢
 apply hKR
 clear hKR KR
 obtain ⟨o0, o1, o2, o3, o4, o5, o6, o7⟩ := op_cells (show w4.heap[w.heap.size + 1]? = some (.cells #[.int .i64 (d : Int), .int .i64 (x + 1), .int .i64 (S + 1), .int .i64 o.kind, .string o.item, .int .i64 o.qty, .int .i64 o.level, .int .i64 o.undos] 93 (0, 0)) from HP4.out.snd)
 go_wp2_with fail
 refine (implOpOk (d : Int) (x + 1) (S + 1) o.kind o.item o.qty o.level o.undos w4).mono ?_
 rintro e w5 ⟨rfl, hb5⟩
 rw [HOK.out]
 have HP5 := Lib.hid (HP4.out.next hb5)
 have HV5 := Lib.hid (HV4.out.below hb5 (by omega))
 have HO5 := Lib.hid (HO4.out.below hb5 (by omega))
 have HE5 := Lib.hid (HE4.out.below hb5 (by omega))
 have hl5 := HP5.out.lt
 clear hb5 HP4 HV4 HO4 HE4 hl4 o0 o1 o2 o3 o4 o5 o6 o7
 have g4 := gErr4 HE5.out
 obtain ⟨HX6, HB6⟩ : Hid (((w5.setCell ⟨w.heap.size + 1 + 1, 0, none⟩ (.slice none 0 0)).setCell ⟨w.heap.size + 1 + 1, 1, none⟩ (.slice none 0 0)).heap[w.heap.size + 1 + 1]? = some (.cells #[.slice none 0 0, .slice none 0 0] 32 (0, 0))) ∧ True := ⟨(HP5.out.set2 (.slice none 0 0) (.slice none 0 0)).1, trivial⟩
 clear HX6 HB6
 go_wp2_with fail
 refine wp_region_held_drew (S := fun w' => w'.cell? ⟨4, 0, none⟩ = some (.iface 240 (.pointer (some (E 4))))) (by kernel_rfl) g4 (fun hHeld => ?_)
 have HBz : Hid (Below w5.heap.size w5 w5.drew) := ⟨rfl, rfl, rfl, Nat.le_refl _, fun _ _ => rfl⟩
 generalize w5.drew = z5 at HBz hHeld ⊢
 have HP6 := Lib.hid (HP5.out.next HBz.out)
 clear HP5
 obtain ⟨r0, r1⟩ := pair_cells HP6.out.res
 obtain ⟨g0, g1⟩ := pair_frozen HP6.out.res
 refine tk 0 ⟨some 26, .build 32 #[], 32, "l06_commands.go:137", #[], none⟩ ?_
 (try simp only [Act.put, u1, u2, u3])
 refine tk 1 ⟨some 27, .load 65 (Operand.global 4), 65, "l06_commands.go:137", #[{ on := 2, ground := Ground.gcOnly Departure.lateStores }], none⟩ ?_
 (try simp only [Act.put, u1, u2, u3])
 refine rk 2 rfl (fun K hK => ?_)
 go_simp
 refine hK.out _ _ ((World.cell?_of_block (a := ⟨4, 0, none⟩) (pair_other (w := z5) (b := w.heap.size + 1 + 1) (k := 4) (.slice none 0 0) (.slice none 0 0) (by omega))).trans hHeld) (fun hHeld2 => ?_)
 clear hK K
 (try simp only [Act.put, u1, u2, u3])
 refine tk 3 ⟨some 7, .assign (.tmp 27), 65, "l06_commands.go:137", #[⟨1, .data⟩, ⟨2, .chain⟩, ⟨0, .phase⟩, ⟨1, .phase⟩, ⟨2, .phase⟩], none⟩ ?_
 (try simp only [Act.put, u1, u2, u3])
 refine wpAnyH_done (by kernel_rfl) ?_ _
 have HX6 := Lib.hid (HP6.out.set2 (.slice none 0 0) (.slice none 0 0)).1
 have HB6 := Lib.hid (HP6.out.bel.trans ((HP6.out.set2 (.slice none 0 0) (.slice none 0 0)).2.mono (by omega)))
 go_wp2
 change bodyPost _ _ _ _ _ ((z5.setCell ⟨w.heap.size + 1 + 1, 0, none⟩ (.slice none 0 0)).setCell ⟨w.heap.size + 1 + 1, 1, none⟩ (.slice none 0 0))
 clear r0 r1 g0 g1 hHeld hHeld2
 generalize ((z5.setCell ⟨w.heap.size + 1 + 1, 0, none⟩ (.slice none 0 0)).setCell ⟨w.heap.size + 1 + 1, 1, none⟩ (.slice none 0 0)) = wf at HX6 HB6 ⊢
 obtain ⟨q0, q1⟩ := pair_cells HX6.out
 exact bodyPost_ret (v := .tuple #[.agg #[.slice none 0 0, .slice none 0 0], (.iface 240 (.pointer (some (E 4))))]) (by simp [results, Tryz.results122, go_sem, q0, q1]) rfl (.inl ⟨by decide, by rw [errV_4], HB6.out⟩)
set_option linter.unusedVariables false
set_option linter.unusedSimpArgs false

theorem rowO_keep {W W' : World} {base n m c : Nat} {a : Option Addr} {xs : List Value} (h : W.ownsRow base 93 8 (.slice a m c) n xs) (hk : ∀ k x, a = some ⟨k, x, none⟩ → base ≤ k → W'.heap[k]? = W.heap[k]?) : W'.ownsRow base 93 8 (.slice a m c) n xs := by
 refine ⟨h.1, ?_⟩
 rcases h.2 with h2 | ⟨g, cap, cur, e, hg, hc, r⟩
 ·exact .inl h2
 ·have e0 := e
  injection e0 with e1 _ _
  exact .inr ⟨g, cap, cur, e, hg, (hk g 0 e1 hg).trans hc, r⟩
theorem rowO_ne {W : World} {base n m c b : Nat} {a : Option Addr} {xs : List Value} {cs : Array Value} {T : TypeId} (h : W.ownsRow base 93 8 (.slice a m c) n xs) (hb : W.heap[b]? = some (.cells cs T (0, 0))) (hT : T ≠ 93) : ∀ k x, a = some ⟨k, x, none⟩ → k ≠ b := by
 intro k x e hkb
 rcases h.2 with ⟨e2, _⟩ | ⟨g, cap, cur, e2, hg, hc, r⟩
 ·injection e2 with e3 _ _
  rw [e] at e3
  cases e3
 ·injection e2 with e3 _ _
  rw [e] at e3
  injection e3 with e3
  injection e3 with e4 _
  subst e4 hkb
  rw [hc] at hb
  injection hb with hb
  injection hb with _ hb _
  exact hT hb.symm
theorem own_set {w : World} {lo hi gv n d : Nat} {cur : Array Value} {xs : List Int} (x : Int) (hl : xs.length = n) (hd : d < n) (h1 : lo ≤ gv) (h2 : gv < hi) (hg : w.heap[gv]? = some (.cells cur 2 (0, 0))) (hc : ∀ i, i < n → cur[i]? = some (.int .i64 (xs.getD i 0))) : Own (w.setCell ⟨gv, d, none⟩ (.int .i64 x)) lo hi (some ⟨gv, 0, none⟩) n (xs.set d x) := by
 refine ⟨by simp [hl], fun _ => ⟨gv, cur.setIfInBounds d (.int .i64 x), rfl, h1, h2, heap_setCell_same _ _ _ _ _ _ hg, fun i hi => ?_⟩⟩
 have hs : d < cur.size := (Array.getElem?_eq_some_iff.1 (hc d hd)).1
 rw [Array.getElem?_setIfInBounds, set_getD (by omega)]
 by_cases e : d = i
 ·subst e
  rw [if_pos rfl, if_pos hs, if_pos rfl]
 ·rw [if_neg e, if_neg e]
  exact hc i hi
theorem share {G : Prop} {F : Nat → World → Prop} (T : Nat → World → Prop) (h1 : (∀ vb z, F vb z → T vb z) → G) (h2 : ∀ vb z, F vb z → T vb z) : G := h1 h2
theorem wpAnyH_listed {P : Program} {ops : Array Oper} {Q : Exit → Act → World → Prop} {md : Region.Mode} {S : World → Prop} {fuel : Nat} {l l' : Array Bool} {a : Act} {w : World} (h : l = l') (hw : wpAnyH P md ops Q S fuel l' a w) : wpAnyH P md ops Q S fuel l a w := h ▸ hw
set_option maxHeartbeats 40000000 in
theorem insertedYes (w : World) (B : Nat) (E : Int → Addr) (hE : Errs w B E) (g off : Nat) (ao : Option Addr) (cv no co d : Nat) (xs : List Int) (l : List OpV) (o : OpV) (hx : Ints w B (some ⟨g, off, none⟩) 4 xs) (h : Ops w B ao no l) (hB : B ≤ w.heap.size) (hcv : 4 ≤ cv) (hco : Caps ao no co) (hc : cartB xs l = true) (hd : d < 4) (hi : o.item.size ≤ 1048576) (hok : (nextOp xs l d o).ok = true) :
  Calls Tryz.prog 122 #[.agg #[.slice (some ⟨g, off, none⟩) 4 cv, .slice ao no co], .int .i64 (d : Int), .agg #[.int .i64 o.dev, .int .i64 o.seq, .int .i64 o.stamp, .int .i64 o.kind, .string o.item, .int .i64 o.qty, .int .i64 o.level, .int .i64 o.undos]] w (ChP E (0, putV xs d, putL l d (nextOp xs l d o)) w) := by
 obtain ⟨hxl, hxa⟩ := cart_vecs hc
 obtain ⟨hx0, hx1⟩ := hxa d hd
 have hno : no ≤ 160 := by rw [← h.1]; exact cart_length hc
 have hst : ∀ i, i < l.length → (atOp l i).stamp ≤ 200000 := fun i hi' => by
  have h2 := (op_bounds (cart_op hc hi')).2.2.2.1
  omega
 have HM : Hid (∀ i, i < no → (l.getD i OpV.zero).item.size ≤ 1048576) := fun i hi' => by
  have h2 := (op_bounds (cart_op hc (i := i) (by rw [h.1]; exact hi'))).2.2.2.2.1
  have e : atOp l i = l.getD i OpV.zero := rfl
  rw [← e]
  omega
 have hS0 := stampTo_pos l l.length
 have hS1 := stampTo_le (N := 200000) (by omega) hst l.length (Nat.le_refl _)
 have hT := PutF.mk0 w #[.slice (some ⟨g, off, none⟩) 4 cv, .slice ao no co] #[.int .i64 o.dev, .int .i64 o.seq, .int .i64 o.stamp, .int .i64 o.kind, .string o.item, .int .i64 o.qty, .int .i64 o.level, .int .i64 o.undos] #[.slice none 0 0, .slice none 0 0]
 have HV := Lib.hid (hx.below hT.bel hB)
 have HO := Lib.hid (h.below hT.bel hB)
 have HE := Lib.hid (hE.below hT.bel hB)
 have HT := Lib.hid hT
 have HLo := Lib.hid h.1
 have HCO := Lib.hid hco
 have HC := Lib.hid hc
 have HOK : Hid (opB (d : Int) (xs.getD d 0 + 1) (stampTo l l.length + 1) o.kind o.item o.qty o.level o.undos = true) := hok
 have HNX : Hid (nextOp xs l d o = ⟨(d : Int), xs.getD d 0 + 1, stampTo l l.length + 1, o.kind, o.item, o.qty, o.level, o.undos⟩) := rfl
 have HPV : Hid (putV xs d = xs.set d (xs.getD d 0 + 1)) := rfl
 have hE5 := hE.low
 clear hx h hT hst hok hco hE hc hxa
 go_enter Tryz.func122, Tryz.ntmps122
 go_upto_region 1 with fail
 rename_i KR hKR
 generalize ((w.alloc (.cells #[.slice (some ⟨g, off, none⟩) 4 cv, .slice ao no co] 32)).alloc (.cells #[.int .i64 o.dev, .int .i64 o.seq, .int .i64 o.stamp, .int .i64 o.kind, .string o.item, .int .i64 o.qty, .int .i64 o.level, .int .i64 o.undos] 93)).alloc (.cells #[.slice none 0 0, .slice none 0 0] 32) = w0 at HV HO HE HT ⊢
 obtain ⟨b, off', he, hb, hc⟩ := HV.out.2 d hd
 injection he with he
 injection he with he1 he2
 subst he1 he2
 obtain ⟨x, hxe⟩ : ∃ x, x = xs.getD d 0 := ⟨_, rfl⟩
 obtain ⟨S, hse⟩ : ∃ S, S = stampTo l l.length := ⟨_, rfl⟩
 rw [← hxe, ← hse] at HOK HNX
 rw [← hxe] at hc hx0 hx1 HPV
 rw [← hse] at hS0 hS1
 have HSE := Lib.hid hse
 have HXE := Lib.hid hxe
 clear hxe hse
 have hdi : (d : Int) < 4 := by omega
 have hs0 := HT.out.lt
 have hwx : IntKind.i64.wrap (x + 1) = x + 1 := IntWalk.i64_in _ (by omega)
 have hws : IntKind.i64.wrap (S + 1) = S + 1 := IntWalk.i64_in _ (by omega)
 have hS : w0.cell? ⟨w.heap.size, 0, none⟩ = some (.slice (some ⟨g, off, none⟩) 4 cv) ∧ w0.cell? ⟨w.heap.size, 1, none⟩ = some (.slice ao no co) ∧ w0.cell? ⟨g, off + d, none⟩ = some (.int .i64 x) := ⟨(pair_cells HT.out.fst).1, (pair_cells HT.out.fst).2, hc⟩
 refine wp_region_held_drew (S := fun w' => w'.cell? ⟨w.heap.size, 0, none⟩ = some (.slice (some ⟨g, off, none⟩) 4 cv) ∧ w'.cell? ⟨w.heap.size, 1, none⟩ = some (.slice ao no co) ∧ w'.cell? ⟨g, off + d, none⟩ = some (.int .i64 x)) (by kernel_rfl) hS (fun hHeld => ?_)
 have HBz : Hid (Below w0.heap.size w0 w0.drew) := ⟨rfl, rfl, rfl, Nat.le_refl _, fun _ _ => rfl⟩
 generalize w0.drew = z0 at HBz hHeld ⊢
 refine tk 0 ⟨some 9, .move (.tmp 1), 2, "l06_commands.go:135", #[], none⟩ ?_
 (try simp only [Act.put, u1, u2, u3])
 refine tk 1 ⟨some 10, .fieldAddr 32 (.tmp 3) 0, 0, "l06_commands.go:135", #[{ on := 12, ground := Ground.gcOnly Departure.lateStores }], none⟩ ?_
 (try simp only [Act.put, u1, u2, u3])
 refine tk 2 ⟨some 11, .load 22 (.tmp 10), 22, "l06_commands.go:135", #[⟨1, .data⟩, { on := 12, ground := Ground.gcOnly Departure.lateStores }], none⟩ ?_
 (try simp only [Act.put, u1, u2, u3])
 refine tk 3 ⟨some 12, .move (.tmp 1), 2, "l06_commands.go:135", #[{ on := 12, ground := Ground.gcOnly Departure.lateStores }], none⟩ ?_
 (try simp only [Act.put, u1, u2, u3])
 refine tk 4 ⟨some 13, .indexAddr 22 (.tmp 11) (.tmp 12), 0, "l06_commands.go:135", #[⟨2, .data⟩, ⟨3, .data⟩, { on := 12, ground := Ground.gcOnly Departure.lateStores }], none⟩ ?_
 (try simp only [Act.put, u1, u2, u3])
 refine tk 5 ⟨some 14, .load 2 (.tmp 13), 2, "l06_commands.go:135", #[⟨4, .data⟩, { on := 12, ground := Ground.gcOnly Departure.lateStores }], none⟩ ?_
 (try simp only [Act.put, u1, u2, u3])
 refine tk 6 ⟨some 15, .binOp .add 2 (.tmp 14) (.const (Value.int IntKind.i64 1)) 2, 2, "l06_commands.go:135", #[⟨5, .data⟩, { on := 12, ground := Ground.gcOnly Departure.lateStores }], none⟩ ?_
 (try simp only [Act.put, u1, u2, u3])
 refine tk 7 ⟨some 16, .fieldAddr 32 (.tmp 3) 1, 0, "l06_commands.go:135", #[], none⟩ ?_
 (try simp only [Act.put, u1, u2, u3])
 refine tk 8 ⟨some 17, .load 30 (.tmp 16), 30, "l06_commands.go:135", #[⟨7, .data⟩], none⟩ ?_
 (try simp only [Act.put, u1, u2, u3])
 refine tk 11 ⟨some 20, .fieldAddr 93 (.tmp 5) 0, 0, "l06_commands.go:135", #[⟨0, .phase⟩, ⟨1, .textOnly .lateStores⟩, ⟨2, .textOnly .lateStores⟩, ⟨3, .textOnly .lateStores⟩, ⟨4, .textOnly .lateStores⟩, ⟨5, .textOnly .lateStores⟩, ⟨6, .textOnly .lateStores⟩, ⟨7, .textOnly .lateStores⟩, ⟨8, .textOnly .lateStores⟩, ⟨9, .textOnly .lateStoresUnsure⟩, ⟨10, .textOnly .lateStores⟩], none⟩ ?_
 (try simp only [Act.put, u1, u2, u3])
 refine rk 9 rfl (fun K hK => ?_)
 go_simp
 go_at_call 135
 refine (lastStampW z0 B ao no co l (HO.out.below HBz.out (by omega)) (by have := HBz.out.size; omega) (by omega)).mono ?_
 rintro e z1 ⟨rfl, hbz⟩
 rw [← HSE.out]
 have HB1 : Hid (Below w0.heap.size w0 z1) := HBz.out.trans (hbz.mono HBz.out.size)
 have HT1 := Lib.hid (HT.out.next HB1.out)
 have hS1 : z1.cell? ⟨w.heap.size, 0, none⟩ = some (.slice (some ⟨g, off, none⟩) 4 cv) ∧ z1.cell? ⟨w.heap.size, 1, none⟩ = some (.slice ao no co) ∧ z1.cell? ⟨g, off + d, none⟩ = some (.int .i64 x) := ⟨(pair_cells HT1.out.fst).1, (pair_cells HT1.out.fst).2, (HB1.out.cell (p := ⟨g, off + d, none⟩) (by show g < _; omega)).trans hc⟩
 clear hbz
 refine hK.out _ _ hS1 (fun hHeld2 => ?_)
 clear hK K
 (try simp only [Act.put, u1, u2, u3])
 obtain ⟨o0, o1, o2, o3, o4, o5, o6, o7⟩ := op_cells HT1.out.snd
 obtain ⟨f0, f1, f2, f3, f4, f5, f6, f7⟩ := op_frozen HT1.out.snd
 have hSt : ∀ (W : World), (∀ k, k ≠ w.heap.size + 1 → W.heap[k]? = z1.heap[k]?) → W.cell? ⟨w.heap.size, 0, none⟩ = some (.slice (some ⟨g, off, none⟩) 4 cv) ∧ W.cell? ⟨w.heap.size, 1, none⟩ = some (.slice ao no co) ∧ W.cell? ⟨g, off + d, none⟩ = some (.int .i64 x) := fun W hW => ⟨(World.cell?_of_block (a := ⟨w.heap.size, 0, none⟩) (hW _ (by show w.heap.size ≠ w.heap.size + 1; omega))).trans hS1.1, (World.cell?_of_block (a := ⟨w.heap.size, 1, none⟩) (hW _ (by show w.heap.size ≠ w.heap.size + 1; omega))).trans hS1.2.1, (World.cell?_of_block (a := ⟨g, off + d, none⟩) (hW _ (by show g ≠ w.heap.size + 1; omega))).trans hS1.2.2⟩
 refine tk 10 ⟨some 19, .binOp .add 2 (.tmp 18) (.const (Value.int IntKind.i64 1)) 2, 2, "l06_commands.go:135", #[⟨9, .data⟩, { on := 14, ground := Ground.gcOnly Departure.lateStores }], none⟩ ?_
 (try simp only [Act.put, u1, u2, u3])
 refine rk 12 rfl (fun K hK => ?_)
 go_simp
 refine hK.out _ _ (hSt _ (fun k hk => heap_setCell_other _ _ _ _ hk)) (fun hHeld3 => ?_)
 clear hK K
 (try simp only [Act.put, u1, u2, u3])
 refine tk 13 ⟨some 21, .fieldAddr 93 (.tmp 5) 1, 0, "l06_commands.go:135", #[⟨0, .phase⟩, ⟨1, .phase⟩, ⟨2, .phase⟩, ⟨3, .phase⟩, ⟨4, .phase⟩, ⟨5, .phase⟩, ⟨6, .phase⟩, ⟨7, .textOnly .lateStores⟩, ⟨8, .textOnly .lateStores⟩, ⟨9, .textOnly .lateStoresUnsure⟩, ⟨10, .textOnly .lateStores⟩, ⟨11, .phase⟩, ⟨12, .phase⟩], none⟩ ?_
 (try simp only [Act.put, u1, u2, u3])
 refine rk 14 rfl (fun K hK => ?_)
 go_simp
 refine hK.out _ _ (hSt _ (fun k hk => (heap_setCell_other _ _ _ _ hk).trans (heap_setCell_other _ _ _ _ hk))) (fun hHeld4 => ?_)
 clear hK K
 (try simp only [Act.put, u1, u2, u3])
 refine tk 15 ⟨some 22, .fieldAddr 93 (.tmp 5) 2, 0, "l06_commands.go:135", #[⟨0, .phase⟩, ⟨1, .phase⟩, ⟨2, .phase⟩, ⟨3, .phase⟩, ⟨4, .phase⟩, ⟨5, .phase⟩, ⟨6, .phase⟩, ⟨7, .phase⟩, ⟨8, .phase⟩, ⟨9, .phase⟩, ⟨10, .phase⟩, ⟨11, .phase⟩, ⟨12, .phase⟩, ⟨13, .phase⟩, ⟨14, .phase⟩], none⟩ ?_
 (try simp only [Act.put, u1, u2, u3])
 refine rk 16 rfl (fun K hK => ?_)
 go_simp
 refine hK.out _ _ (hSt _ (fun k hk => (heap_setCell_other _ _ _ _ hk).trans ((heap_setCell_other _ _ _ _ hk).trans (heap_setCell_other _ _ _ _ hk)))) (fun hHeld5 => ?_)
 clear hK K
 (try simp only [Act.put, u1, u2, u3])
 refine wpAnyH_done (by kernel_rfl) ?_ _
 have HP4 : Hid (PutF w (((z1.setCell ⟨w.heap.size + 1, 0, none⟩ (.int .i64 (d : Int))).setCell ⟨w.heap.size + 1, 1, none⟩ (.int .i64 (x + 1))).setCell ⟨w.heap.size + 1, 2, none⟩ (.int .i64 (S + 1))) #[.slice (some ⟨g, off, none⟩) 4 cv, .slice ao no co] #[.int .i64 (d : Int), .int .i64 (x + 1), .int .i64 (S + 1), .int .i64 o.kind, .string o.item, .int .i64 o.qty, .int .i64 o.level, .int .i64 o.undos] #[.slice none 0 0, .slice none 0 0]) := putf_set3 HT1.out _ _ _
 have HB4 : Hid (Below (w.heap.size + 1) w0 (((z1.setCell ⟨w.heap.size + 1, 0, none⟩ (.int .i64 (d : Int))).setCell ⟨w.heap.size + 1, 1, none⟩ (.int .i64 (x + 1))).setCell ⟨w.heap.size + 1, 2, none⟩ (.int .i64 (S + 1)))) := ((HB1.out.mono (by omega)).trans (below_set2 _ _ _ _ _ _)).trans (below_set1 _ _ _ _)
 have HV4 := Lib.hid (HV.out.below HB4.out (by omega))
 have HO4 := Lib.hid (HO.out.below HB4.out (by omega))
 have HE4 := Lib.hid (HE.out.below HB4.out (by omega))
 clear o0 o1 o2 o3 o4 o5 o6 o7 f0 f1 f2 f3 f4 f5 f6 f7 hSt hHeld hHeld2 hHeld3 hHeld4 hHeld5 hS hS1 HT HT1 HB1 HV HO HE HB4 hc hs0
 have hl4 := HP4.out.lt
 generalize (((z1.setCell ⟨w.heap.size + 1, 0, none⟩ (.int .i64 (d : Int))).setCell ⟨w.heap.size + 1, 1, none⟩ (.int .i64 (x + 1))).setCell ⟨w.heap.size + 1, 2, none⟩ (.int .i64 (S + 1))) = w4 at HP4 HV4 HO4 HE4 hl4 ⊢
 apply hKR
 clear hKR KR
 obtain ⟨o0, o1, o2, o3, o4, o5, o6, o7⟩ := op_cells (show w4.heap[w.heap.size + 1]? = some (.cells #[.int .i64 (d : Int), .int .i64 (x + 1), .int .i64 (S + 1), .int .i64 o.kind, .string o.item, .int .i64 o.qty, .int .i64 o.level, .int .i64 o.undos] 93 (0, 0)) from HP4.out.snd)
 go_wp2_with fail
 refine (implOpOk (d : Int) (x + 1) (S + 1) o.kind o.item o.qty o.level o.undos w4).mono ?_
 rintro e w5 ⟨rfl, hb5⟩
 rw [HOK.out]
 have HP5 := Lib.hid (HP4.out.next hb5)
 have HV5 := Lib.hid (HV4.out.below hb5 (by omega))
 have HO5 := Lib.hid (HO4.out.below hb5 (by omega))
 have HE5 := Lib.hid (HE4.out.below hb5 (by omega))
 have hl5 := HP5.out.lt
 clear hb5 HP4 HV4 HO4 HE4 hl4 o0 o1 o2 o3 o4 o5 o6 o7
 obtain ⟨o0, o1, o2, o3, o4, o5, o6, o7⟩ := op_cells (show w5.heap[w.heap.size + 1]? = some (.cells #[.int .i64 (d : Int), .int .i64 (x + 1), .int .i64 (S + 1), .int .i64 o.kind, .string o.item, .int .i64 o.qty, .int .i64 o.level, .int .i64 o.undos] 93 (0, 0)) from HP5.out.snd)
 go_wp2_with fail
 refine (strClone o.item hi w5).mono ?_
 rintro e w6 ⟨rfl, hb6⟩
 have HP6 := Lib.hid (HP5.out.next hb6)
 have HP7 : Hid (PutF w (w6.setCell ⟨w.heap.size + 1, 4, none⟩ (.string o.item)) #[.slice (some ⟨g, off, none⟩) 4 cv, .slice ao no co] #[.int .i64 (d : Int), .int .i64 (x + 1), .int .i64 (S + 1), .int .i64 o.kind, .string o.item, .int .i64 o.qty, .int .i64 o.level, .int .i64 o.undos] #[.slice none 0 0, .slice none 0 0]) := HP6.out.put 4 (.string o.item)
 have hs6 := hb6.size
 have hB7 : Below (w.heap.size + 1) w5 (w6.setCell ⟨w.heap.size + 1, 4, none⟩ (.string o.item)) := (hb6.mono (by omega)).trans (below_set1 _ _ _ _)
 have HV7 := Lib.hid (HV5.out.below hB7 (by omega))
 have HO7 := Lib.hid (HO5.out.below hB7 (by omega))
 have hl7 := HP7.out.lt
 clear hb6 hB7 o0 o1 o2 o3 o4 o5 o6 o7 HV5 HO5 HE5 HP5 hl5
 obtain ⟨o0, o1, o2, o3, o4, o5, o6, o7⟩ := op_cells (show w6.heap[w.heap.size + 1]? = some (.cells #[.int .i64 (d : Int), .int .i64 (x + 1), .int .i64 (S + 1), .int .i64 o.kind, .string o.item, .int .i64 o.qty, .int .i64 o.level, .int .i64 o.undos] 93 (0, 0)) from HP6.out.snd)
 obtain ⟨f0, f1, f2, f3, f4, f5, f6, f7⟩ := op_frozen HP6.out.snd
 go_upto_region 5 with fail
 generalize w6.setCell ⟨w.heap.size + 1, 4, none⟩ (.string o.item) = w7 at HP7 HV7 HO7 hl7 ⊢
 clear o0 o1 o2 o3 o4 o5 o6 o7 f0 f1 f2 f3 f4 f5 f6 f7 HP6 hs6
 obtain ⟨q0, q1⟩ := pair_cells HP7.out.fst
 go_wp2_with fail
 refine (copiedCartR w7 B g off ao 4 cv no co xs l HV7.out HO7.out (by omega) (by omega) (by omega) (by omega) HCO.out.2.2  HM.out).mono ?_
 rintro e w8 ⟨va, vc, oa, oc, mid, rfl, hown, hrow, hm1, hm2, hb8, hcap⟩
 rw [hxl] at hown hcap ⊢
 have HP8 := Lib.hid (HP7.out.next hb8)
 have HV8 := Lib.hid (HV7.out.below hb8 (by omega))
 obtain ⟨gv, cur, rfl, hg1, hg2, hgv, hcur⟩ := hown.2 (by omega)
 have hs8 := hb8.size
 have HGV := Lib.hid hgv
 have HCU := Lib.hid hcur
 have HCA := Lib.hid hcap
 have HR8 := Lib.hid hrow
 have hoa : Hid (∀ k y, oa = some ⟨k, y, none⟩ → mid ≤ k ∧ k < w8.heap.size) := fun k y e => hrow.lt k (by rw [e]; rfl)
 clear hb8 HP7 HV7 HO7 q0 q1 hown hcap hgv hcur hrow
 have hgs : gv < w8.heap.size := by omega
 go_upto_region 6 with fail
 rename_i KR hKR
 have hbb := ((Below.refl w8.heap.size w8).alloc (Nat.le_refl _) (.cells #[.slice (some ⟨gv, 0, none⟩) 4 vc, .slice oa l.length oc] 32))
 have HP9 := Lib.hid (HP8.out.next hbb)
 have HV9 := Lib.hid (HV8.out.below hbb (by omega))
 have HG9 := Lib.hid ((hbb.block _ hgs).trans HGV.out)
 have HR9 := Lib.hid (rowO_step (B := 0) HR8.out hbb)
 have HN9 := Lib.hid (World.alloc_heap_new w8 (.cells #[.slice (some ⟨gv, 0, none⟩) 4 vc, .slice oa l.length oc] 32))
 have hs9 := hbb.size
 have hl9 := HP9.out.lt
 clear hbb HP8 HV8 HGV HR8
 generalize w8.alloc (.cells #[.slice (some ⟨gv, 0, none⟩) 4 vc, .slice oa l.length oc] 32) = w9 at HP9 HV9 HG9 HR9 HN9 hs9 hl9 ⊢
 have hx9 : w8.heap.size < w9.heap.size := (Array.getElem?_eq_some_iff.1 HN9.out).1
 generalize w8.heap.size = nb at hoa hs8 hgs hs9 hx9 HN9 hm2 ⊢
 have hpl : stOf xs d + ((x + 1).toNat - 1) = putAt (d : Int) l := by
  rw [putAt_st HC.out hd]
  show _ = stOf xs d + (xs.getD d 0).toNat
  rw [← HXE.out]
  omega
 have hvo : vecOk xs = true := (cart_split HC.out).1
 have hpl2 := putAt_le (d : Int) l
 have HBz : Hid (Below w9.heap.size w9 w9.drew) := ⟨rfl, rfl, rfl, Nat.le_refl _, fun _ _ => rfl⟩
 obtain ⟨z0, hz0⟩ : ∃ z0, z0 = w9.drew := ⟨_, rfl⟩
 rw [← hz0] at HBz
 have HPz0 := Lib.hid (HP9.out.next HBz.out)
 have HVz0 := Lib.hid (HV9.out.below HBz.out (by omega))
 have HGz0 := Lib.hid ((HBz.out.block _ (by omega)).trans HG9.out)
 have HRz0 := Lib.hid (rowO_step (B := 0) HR9.out HBz.out)
 have HNz0 := Lib.hid ((HBz.out.block _ hx9).trans HN9.out)
 have hsz0 := HBz.out.size
 have hSk : ∀ z, Below z0.heap.size z0 z → z.cell? ⟨w.heap.size, 0, none⟩ = some (.slice (some ⟨g, off, none⟩) 4 cv) ∧ z.cell? ⟨w.heap.size, 1, none⟩ = some (.slice ao no co) ∧ z.cell? ⟨w.heap.size + 1, 0, none⟩ = some (.int .i64 (d : Int)) ∧ z.cell? ⟨w.heap.size + 1, 1, none⟩ = some (.int .i64 (x + 1)) ∧ z.cell? ⟨w.heap.size + 1, 2, none⟩ = some (.int .i64 (S + 1)) ∧ z.cell? ⟨w.heap.size + 1, 3, none⟩ = some (.int .i64 o.kind) ∧ z.cell? ⟨w.heap.size + 1, 4, none⟩ = some (.string o.item) ∧ z.cell? ⟨w.heap.size + 1, 5, none⟩ = some (.int .i64 o.qty) ∧ z.cell? ⟨w.heap.size + 1, 6, none⟩ = some (.int .i64 o.level) ∧ z.cell? ⟨w.heap.size + 1, 7, none⟩ = some (.int .i64 o.undos) := fun z hb => ⟨(pair_cells (HPz0.out.next hb).fst).1, (pair_cells (HPz0.out.next hb).fst).2, op_cells (show z.heap[w.heap.size + 1]? = some (.cells #[.int .i64 (d : Int), .int .i64 (x + 1), .int .i64 (S + 1), .int .i64 o.kind, .string o.item, .int .i64 o.qty, .int .i64 o.level, .int .i64 o.undos] 93 (0, 0)) from (HPz0.out.next hb).snd)⟩
 refine wp_region_held_drew (S := fun w' => w'.cell? ⟨w.heap.size, 0, none⟩ = some (.slice (some ⟨g, off, none⟩) 4 cv) ∧ w'.cell? ⟨w.heap.size, 1, none⟩ = some (.slice ao no co) ∧ w'.cell? ⟨w.heap.size + 1, 0, none⟩ = some (.int .i64 (d : Int)) ∧ w'.cell? ⟨w.heap.size + 1, 1, none⟩ = some (.int .i64 (x + 1)) ∧ w'.cell? ⟨w.heap.size + 1, 2, none⟩ = some (.int .i64 (S + 1)) ∧ w'.cell? ⟨w.heap.size + 1, 3, none⟩ = some (.int .i64 o.kind) ∧ w'.cell? ⟨w.heap.size + 1, 4, none⟩ = some (.string o.item) ∧ w'.cell? ⟨w.heap.size + 1, 5, none⟩ = some (.int .i64 o.qty) ∧ w'.cell? ⟨w.heap.size + 1, 6, none⟩ = some (.int .i64 o.level) ∧ w'.cell? ⟨w.heap.size + 1, 7, none⟩ = some (.int .i64 o.undos)) (by kernel_rfl) (by rw [← hz0]; exact hSk z0 (Below.refl _ _)) (fun hHeld => ?_)
 rw [← hz0] at hHeld ⊢
 clear hz0 HP9 HV9 HG9 HR9 HN9 HBz
 refine tk 0 ⟨some 34, .fieldAddr 32 (.tmp 8) 1, 0, "l06_commands.go:141", #[], none⟩ ?_
 (try simp only [Act.put, u1, u2, u3])
 refine tk 2 ⟨some 36, .load 32 (.tmp 3), 32, "l06_commands.go:141", #[], none⟩ ?_
 (try simp only [Act.put, u1, u2, u3])
 refine tk 3 ⟨some 37, .move (.tmp 1), 2, "l06_commands.go:141", #[], none⟩ ?_
 (try simp only [Act.put, u1, u2, u3])
 refine tk 4 ⟨some 38, .fieldAddr 93 (.tmp 5) 1, 0, "l06_commands.go:141", #[], none⟩ ?_
 (try simp only [Act.put, u1, u2, u3])
 refine tk 5 ⟨some 39, .load 2 (.tmp 38), 2, "l06_commands.go:141", #[⟨4, .data⟩], none⟩ ?_
 (try simp only [Act.put, u1, u2, u3])
 refine tk 7 ⟨some 41, .load 93 (.tmp 5), 93, "l06_commands.go:141", #[], none⟩ ?_
 (try simp only [Act.put, u1, u2, u3])
 apply share (F := fun vb z => Below z0.heap.size z0 z ∧ z0.heap.size ≤ vb ∧ z.heap[vb]? = some (.cells #[.int .i64 (d : Int), .int .i64 (x + 1), .int .i64 (S + 1), .int .i64 o.kind, .string o.item, .int .i64 o.qty, .int .i64 o.level, .int .i64 o.undos] 93 (0, 0)))
 case h1 =>
  intro hT
  have gz0 : Below z0.heap.size z0 z0 := Below.refl _ _
  refine wpAnyH_ready (rs := [1, 6, 8]) (by kernel_rfl) (by simp) ?_
  refine (AllReadyH.cons rfl (fun K hK => ?_) (AllReadyH.cons rfl (fun K hK => ?_) (AllReadyH.cons rfl (fun K hK => ?_) AllReadyH.nil)))
  ·
   have xc1 : z0.cell? ⟨nb, 1, none⟩ = some (.slice oa l.length oc) := (gz0.cell (p := ⟨nb, 1, none⟩) (by show nb < _; omega)).trans (pair_cells HNz0.out).2
   go_simp
   refine hK.out _ _ (hSk z0 gz0) (fun _ => ?_)
   clear hK K xc1
   (try simp only [Act.put, u1, u2, u3])
   refine wpAnyH_ready (rs := [6, 8]) (by kernel_rfl) (by simp) ?_
   refine (AllReadyH.cons rfl (fun K hK => ?_) (AllReadyH.cons rfl (fun K hK => ?_) AllReadyH.nil))
   ·
    go_simp
    go_at_call 120
    refine (placeOfW z0 B (some ⟨g, off, none⟩) ao cv no co d xs (HVz0.out.below gz0 (by omega)) (by have := gz0.size; omega) hcv hd hvo (x + 1) (by omega) (by omega)).mono ?_
    rintro e y2 ⟨rfl, hby2⟩
    rw [hpl]
    have gy2 : Below z0.heap.size z0 y2 := gz0.trans (hby2.mono gz0.size)
    refine hK.out _ _ (hSk y2 gy2) (fun _ => ?_)
    clear hK K hby2
    (try simp only [Act.put, u1, u2, u3])
    refine wpAnyH_ready (rs := [8]) (by kernel_rfl) (by simp) ?_
    refine (AllReadyH.cons rfl (fun K hK => ?_) AllReadyH.nil)
    ·
     have gy3 : Below z0.heap.size z0 (y2.alloc (.cells #[.int .i64 (d : Int), .int .i64 (x + 1), .int .i64 (S + 1), .int .i64 o.kind, .string o.item, .int .i64 o.qty, .int .i64 o.level, .int .i64 o.undos] 93)) := gy2.alloc gy2.size _
     have vy3 : (y2.alloc (.cells #[.int .i64 (d : Int), .int .i64 (x + 1), .int .i64 (S + 1), .int .i64 o.kind, .string o.item, .int .i64 o.qty, .int .i64 o.level, .int .i64 o.undos] 93)).heap[y2.heap.size]? = some (.cells #[.int .i64 (d : Int), .int .i64 (x + 1), .int .i64 (S + 1), .int .i64 o.kind, .string o.item, .int .i64 o.qty, .int .i64 o.level, .int .i64 o.undos] 93 (0, 0)) := World.alloc_heap_new _ _
     go_simp
     refine hK.out _ _ (hSk _ gy3) (fun _ => ?_)
     clear hK K
     (try simp only [Act.put, u1, u2, u3])
     generalize (y2.alloc (.cells #[.int .i64 (d : Int), .int .i64 (x + 1), .int .i64 (S + 1), .int .i64 o.kind, .string o.item, .int .i64 o.qty, .int .i64 o.level, .int .i64 o.undos] 93)) = y3 at gy3 vy3 ⊢
     obtain ⟨vb, hvbe⟩ : ∃ vb, vb = y2.heap.size := ⟨_, rfl⟩
     have hvge : z0.heap.size ≤ vb := by rw [hvbe]; exact gy2.size
     rw [← hvbe] at vy3 ⊢
     clear hvbe
     exact wpAnyH_listed (l' := #[true, true, true, true, true, true, true, true, true, false, false, false]) (by kernel_rfl) (hT vb y3 ⟨gy3, hvge, vy3⟩)
   ·
    have gy4 : Below z0.heap.size z0 (z0.alloc (.cells #[.int .i64 (d : Int), .int .i64 (x + 1), .int .i64 (S + 1), .int .i64 o.kind, .string o.item, .int .i64 o.qty, .int .i64 o.level, .int .i64 o.undos] 93)) := gz0.alloc gz0.size _
    have vy4 : (z0.alloc (.cells #[.int .i64 (d : Int), .int .i64 (x + 1), .int .i64 (S + 1), .int .i64 o.kind, .string o.item, .int .i64 o.qty, .int .i64 o.level, .int .i64 o.undos] 93)).heap[z0.heap.size]? = some (.cells #[.int .i64 (d : Int), .int .i64 (x + 1), .int .i64 (S + 1), .int .i64 o.kind, .string o.item, .int .i64 o.qty, .int .i64 o.level, .int .i64 o.undos] 93 (0, 0)) := World.alloc_heap_new _ _
    go_simp
    refine hK.out _ _ (hSk _ gy4) (fun _ => ?_)
    clear hK K
    (try simp only [Act.put, u1, u2, u3])
    generalize (z0.alloc (.cells #[.int .i64 (d : Int), .int .i64 (x + 1), .int .i64 (S + 1), .int .i64 o.kind, .string o.item, .int .i64 o.qty, .int .i64 o.level, .int .i64 o.undos] 93)) = y4 at gy4 vy4 ⊢
    obtain ⟨vb, hvbe⟩ : ∃ vb, vb = z0.heap.size := ⟨_, rfl⟩
    have hvge : z0.heap.size ≤ vb := by rw [hvbe]; exact gz0.size
    rw [← hvbe] at vy4 ⊢
    clear hvbe
    refine wpAnyH_ready (rs := [6]) (by kernel_rfl) (by simp) ?_
    refine (AllReadyH.cons rfl (fun K hK => ?_) AllReadyH.nil)
    ·
     go_simp
     go_at_call 120
     refine (placeOfW y4 B (some ⟨g, off, none⟩) ao cv no co d xs (HVz0.out.below gy4 (by omega)) (by have := gy4.size; omega) hcv hd hvo (x + 1) (by omega) (by omega)).mono ?_
     rintro e y5 ⟨rfl, hby5⟩
     rw [hpl]
     have gy5 : Below z0.heap.size z0 y5 := gy4.trans (hby5.mono gy4.size)
     have vy5 := (hby5.block _ (Array.getElem?_eq_some_iff.1 vy4).1).trans vy4
     refine hK.out _ _ (hSk y5 gy5) (fun _ => ?_)
     clear hK K hby5
     (try simp only [Act.put, u1, u2, u3])
     exact wpAnyH_listed (l' := #[true, true, true, true, true, true, true, true, true, false, false, false]) (by kernel_rfl) (hT vb y5 ⟨gy5, hvge, vy5⟩)
  ·
   go_simp
   go_at_call 120
   refine (placeOfW z0 B (some ⟨g, off, none⟩) ao cv no co d xs (HVz0.out.below gz0 (by omega)) (by have := gz0.size; omega) hcv hd hvo (x + 1) (by omega) (by omega)).mono ?_
   rintro e y6 ⟨rfl, hby6⟩
   rw [hpl]
   have gy6 : Below z0.heap.size z0 y6 := gz0.trans (hby6.mono gz0.size)
   refine hK.out _ _ (hSk y6 gy6) (fun _ => ?_)
   clear hK K hby6
   (try simp only [Act.put, u1, u2, u3])
   refine wpAnyH_ready (rs := [1, 8]) (by kernel_rfl) (by simp) ?_
   refine (AllReadyH.cons rfl (fun K hK => ?_) (AllReadyH.cons rfl (fun K hK => ?_) AllReadyH.nil))
   ·
    have xc1 : y6.cell? ⟨nb, 1, none⟩ = some (.slice oa l.length oc) := (gy6.cell (p := ⟨nb, 1, none⟩) (by show nb < _; omega)).trans (pair_cells HNz0.out).2
    go_simp
    refine hK.out _ _ (hSk y6 gy6) (fun _ => ?_)
    clear hK K xc1
    (try simp only [Act.put, u1, u2, u3])
    refine wpAnyH_ready (rs := [8]) (by kernel_rfl) (by simp) ?_
    refine (AllReadyH.cons rfl (fun K hK => ?_) AllReadyH.nil)
    ·
     have gy8 : Below z0.heap.size z0 (y6.alloc (.cells #[.int .i64 (d : Int), .int .i64 (x + 1), .int .i64 (S + 1), .int .i64 o.kind, .string o.item, .int .i64 o.qty, .int .i64 o.level, .int .i64 o.undos] 93)) := gy6.alloc gy6.size _
     have vy8 : (y6.alloc (.cells #[.int .i64 (d : Int), .int .i64 (x + 1), .int .i64 (S + 1), .int .i64 o.kind, .string o.item, .int .i64 o.qty, .int .i64 o.level, .int .i64 o.undos] 93)).heap[y6.heap.size]? = some (.cells #[.int .i64 (d : Int), .int .i64 (x + 1), .int .i64 (S + 1), .int .i64 o.kind, .string o.item, .int .i64 o.qty, .int .i64 o.level, .int .i64 o.undos] 93 (0, 0)) := World.alloc_heap_new _ _
     go_simp
     refine hK.out _ _ (hSk _ gy8) (fun _ => ?_)
     clear hK K
     (try simp only [Act.put, u1, u2, u3])
     generalize (y6.alloc (.cells #[.int .i64 (d : Int), .int .i64 (x + 1), .int .i64 (S + 1), .int .i64 o.kind, .string o.item, .int .i64 o.qty, .int .i64 o.level, .int .i64 o.undos] 93)) = y8 at gy8 vy8 ⊢
     obtain ⟨vb, hvbe⟩ : ∃ vb, vb = y6.heap.size := ⟨_, rfl⟩
     have hvge : z0.heap.size ≤ vb := by rw [hvbe]; exact gy6.size
     rw [← hvbe] at vy8 ⊢
     clear hvbe
     exact wpAnyH_listed (l' := #[true, true, true, true, true, true, true, true, true, false, false, false]) (by kernel_rfl) (hT vb y8 ⟨gy8, hvge, vy8⟩)
   ·
    have gy9 : Below z0.heap.size z0 (y6.alloc (.cells #[.int .i64 (d : Int), .int .i64 (x + 1), .int .i64 (S + 1), .int .i64 o.kind, .string o.item, .int .i64 o.qty, .int .i64 o.level, .int .i64 o.undos] 93)) := gy6.alloc gy6.size _
    have vy9 : (y6.alloc (.cells #[.int .i64 (d : Int), .int .i64 (x + 1), .int .i64 (S + 1), .int .i64 o.kind, .string o.item, .int .i64 o.qty, .int .i64 o.level, .int .i64 o.undos] 93)).heap[y6.heap.size]? = some (.cells #[.int .i64 (d : Int), .int .i64 (x + 1), .int .i64 (S + 1), .int .i64 o.kind, .string o.item, .int .i64 o.qty, .int .i64 o.level, .int .i64 o.undos] 93 (0, 0)) := World.alloc_heap_new _ _
    go_simp
    refine hK.out _ _ (hSk _ gy9) (fun _ => ?_)
    clear hK K
    (try simp only [Act.put, u1, u2, u3])
    generalize (y6.alloc (.cells #[.int .i64 (d : Int), .int .i64 (x + 1), .int .i64 (S + 1), .int .i64 o.kind, .string o.item, .int .i64 o.qty, .int .i64 o.level, .int .i64 o.undos] 93)) = y9 at gy9 vy9 ⊢
    obtain ⟨vb, hvbe⟩ : ∃ vb, vb = y6.heap.size := ⟨_, rfl⟩
    have hvge : z0.heap.size ≤ vb := by rw [hvbe]; exact gy6.size
    rw [← hvbe] at vy9 ⊢
    clear hvbe
    refine wpAnyH_ready (rs := [1]) (by kernel_rfl) (by simp) ?_
    refine (AllReadyH.cons rfl (fun K hK => ?_) AllReadyH.nil)
    ·
     have xc1 : y9.cell? ⟨nb, 1, none⟩ = some (.slice oa l.length oc) := (gy9.cell (p := ⟨nb, 1, none⟩) (by show nb < _; omega)).trans (pair_cells HNz0.out).2
     go_simp
     refine hK.out _ _ (hSk y9 gy9) (fun _ => ?_)
     clear hK K xc1
     (try simp only [Act.put, u1, u2, u3])
     exact wpAnyH_listed (l' := #[true, true, true, true, true, true, true, true, true, false, false, false]) (by kernel_rfl) (hT vb y9 ⟨gy9, hvge, vy9⟩)
  ·
   have gy11 : Below z0.heap.size z0 (z0.alloc (.cells #[.int .i64 (d : Int), .int .i64 (x + 1), .int .i64 (S + 1), .int .i64 o.kind, .string o.item, .int .i64 o.qty, .int .i64 o.level, .int .i64 o.undos] 93)) := gz0.alloc gz0.size _
   have vy11 : (z0.alloc (.cells #[.int .i64 (d : Int), .int .i64 (x + 1), .int .i64 (S + 1), .int .i64 o.kind, .string o.item, .int .i64 o.qty, .int .i64 o.level, .int .i64 o.undos] 93)).heap[z0.heap.size]? = some (.cells #[.int .i64 (d : Int), .int .i64 (x + 1), .int .i64 (S + 1), .int .i64 o.kind, .string o.item, .int .i64 o.qty, .int .i64 o.level, .int .i64 o.undos] 93 (0, 0)) := World.alloc_heap_new _ _
   go_simp
   refine hK.out _ _ (hSk _ gy11) (fun _ => ?_)
   clear hK K
   (try simp only [Act.put, u1, u2, u3])
   generalize (z0.alloc (.cells #[.int .i64 (d : Int), .int .i64 (x + 1), .int .i64 (S + 1), .int .i64 o.kind, .string o.item, .int .i64 o.qty, .int .i64 o.level, .int .i64 o.undos] 93)) = y11 at gy11 vy11 ⊢
   obtain ⟨vb, hvbe⟩ : ∃ vb, vb = z0.heap.size := ⟨_, rfl⟩
   have hvge : z0.heap.size ≤ vb := by rw [hvbe]; exact gz0.size
   rw [← hvbe] at vy11 ⊢
   clear hvbe
   refine wpAnyH_ready (rs := [1, 6]) (by kernel_rfl) (by simp) ?_
   refine (AllReadyH.cons rfl (fun K hK => ?_) (AllReadyH.cons rfl (fun K hK => ?_) AllReadyH.nil))
   ·
    have xc1 : y11.cell? ⟨nb, 1, none⟩ = some (.slice oa l.length oc) := (gy11.cell (p := ⟨nb, 1, none⟩) (by show nb < _; omega)).trans (pair_cells HNz0.out).2
    go_simp
    refine hK.out _ _ (hSk y11 gy11) (fun _ => ?_)
    clear hK K xc1
    (try simp only [Act.put, u1, u2, u3])
    refine wpAnyH_ready (rs := [6]) (by kernel_rfl) (by simp) ?_
    refine (AllReadyH.cons rfl (fun K hK => ?_) AllReadyH.nil)
    ·
     go_simp
     go_at_call 120
     refine (placeOfW y11 B (some ⟨g, off, none⟩) ao cv no co d xs (HVz0.out.below gy11 (by omega)) (by have := gy11.size; omega) hcv hd hvo (x + 1) (by omega) (by omega)).mono ?_
     rintro e y13 ⟨rfl, hby13⟩
     rw [hpl]
     have gy13 : Below z0.heap.size z0 y13 := gy11.trans (hby13.mono gy11.size)
     have vy13 := (hby13.block _ (Array.getElem?_eq_some_iff.1 vy11).1).trans vy11
     refine hK.out _ _ (hSk y13 gy13) (fun _ => ?_)
     clear hK K hby13
     (try simp only [Act.put, u1, u2, u3])
     exact wpAnyH_listed (l' := #[true, true, true, true, true, true, true, true, true, false, false, false]) (by kernel_rfl) (hT vb y13 ⟨gy13, hvge, vy13⟩)
   ·
    go_simp
    go_at_call 120
    refine (placeOfW y11 B (some ⟨g, off, none⟩) ao cv no co d xs (HVz0.out.below gy11 (by omega)) (by have := gy11.size; omega) hcv hd hvo (x + 1) (by omega) (by omega)).mono ?_
    rintro e y14 ⟨rfl, hby14⟩
    rw [hpl]
    have gy14 : Below z0.heap.size z0 y14 := gy11.trans (hby14.mono gy11.size)
    have vy14 := (hby14.block _ (Array.getElem?_eq_some_iff.1 vy11).1).trans vy11
    refine hK.out _ _ (hSk y14 gy14) (fun _ => ?_)
    clear hK K hby14
    (try simp only [Act.put, u1, u2, u3])
    refine wpAnyH_ready (rs := [1]) (by kernel_rfl) (by simp) ?_
    refine (AllReadyH.cons rfl (fun K hK => ?_) AllReadyH.nil)
    ·
     have xc1 : y14.cell? ⟨nb, 1, none⟩ = some (.slice oa l.length oc) := (gy14.cell (p := ⟨nb, 1, none⟩) (by show nb < _; omega)).trans (pair_cells HNz0.out).2
     go_simp
     refine hK.out _ _ (hSk y14 gy14) (fun _ => ?_)
     clear hK K xc1
     (try simp only [Act.put, u1, u2, u3])
     exact wpAnyH_listed (l' := #[true, true, true, true, true, true, true, true, true, false, false, false]) (by kernel_rfl) (hT vb y14 ⟨gy14, hvge, vy14⟩)
 case h2 =>
  intro vb z ⟨gz, hvge, hvb⟩
  have HPz := Lib.hid (HPz0.out.next gz)
  have HGz := Lib.hid ((gz.block _ (by omega)).trans HGz0.out)
  have HRz := Lib.hid (rowO_step (B := 0) HRz0.out gz)
  have HNz := Lib.hid ((gz.block _ (by omega)).trans HNz0.out)
  have hsz := gz.size
  clear gz HPz0 HGz0 HRz0 HNz0 HVz0 hHeld
  have hI := insAt z mid oa l.length oc (putAt (d : Int) l) l HRz.out (by omega) (by have := HLo.out; omega) hpl2 (⟨(d : Int), x + 1, S + 1, o.kind, o.item, o.qty, o.level, o.undos⟩ : OpV) vb hvb (fun k y e => by have := hoa.out k y e; omega)
  have hI := Lib.hid hI
  refine rk 9 rfl (fun K hK => ?_)
  go_simp
  go_at_call 136
  refine hI.out.mono ?_
  rintro e zi ⟨ra, rc, rfl, hro, hbi, hot⟩
  have hkeep : ∀ j, j < z.heap.size → (j < mid ∨ nb ≤ j) → zi.heap[j]? = z.heap[j]? := fun j h1 h2 => hot j h1 (fun y e => by have := hoa.out j y e; omega)
  have HPi : Hid (PutF w zi #[.slice (some ⟨g, off, none⟩) 4 cv, .slice ao no co] #[.int .i64 (d : Int), .int .i64 (x + 1), .int .i64 (S + 1), .int .i64 o.kind, .string o.item, .int .i64 o.qty, .int .i64 o.level, .int .i64 o.undos] #[.slice none 0 0, .slice none 0 0]) := HPz.out.far (hbi.mono (by omega))
  have HGi := Lib.hid ((hkeep gv (by omega) (.inl (by omega))).trans HGz.out)
  have HNi := Lib.hid ((hkeep nb (by omega) (.inr (Nat.le_refl _))).trans HNz.out)
  have HRi := Lib.hid hro
  have hsi := hbi.size
  clear hro hbi hot hkeep HPz HGz HNz HRz hvb hI
  obtain ⟨Ln, hLn⟩ : ∃ Ln, Ln = (l.take (putAt (d : Int) l) ++ [(⟨(d : Int), x + 1, S + 1, o.kind, o.item, o.qty, o.level, o.undos⟩ : OpV)] ++ l.drop (putAt (d : Int) l)) := ⟨_, rfl⟩
  rw [← hLn] at HRi ⊢
  have HLN := Lib.hid hLn
  clear hLn
  have hSi : zi.cell? ⟨w.heap.size, 0, none⟩ = some (.slice (some ⟨g, off, none⟩) 4 cv) ∧ zi.cell? ⟨w.heap.size, 1, none⟩ = some (.slice ao no co) ∧ zi.cell? ⟨w.heap.size + 1, 0, none⟩ = some (.int .i64 (d : Int)) ∧ zi.cell? ⟨w.heap.size + 1, 1, none⟩ = some (.int .i64 (x + 1)) ∧ zi.cell? ⟨w.heap.size + 1, 2, none⟩ = some (.int .i64 (S + 1)) ∧ zi.cell? ⟨w.heap.size + 1, 3, none⟩ = some (.int .i64 o.kind) ∧ zi.cell? ⟨w.heap.size + 1, 4, none⟩ = some (.string o.item) ∧ zi.cell? ⟨w.heap.size + 1, 5, none⟩ = some (.int .i64 o.qty) ∧ zi.cell? ⟨w.heap.size + 1, 6, none⟩ = some (.int .i64 o.level) ∧ zi.cell? ⟨w.heap.size + 1, 7, none⟩ = some (.int .i64 o.undos) := ⟨(pair_cells HPi.out.fst).1, (pair_cells HPi.out.fst).2, op_cells (show zi.heap[w.heap.size + 1]? = some (.cells #[.int .i64 (d : Int), .int .i64 (x + 1), .int .i64 (S + 1), .int .i64 o.kind, .string o.item, .int .i64 o.qty, .int .i64 o.level, .int .i64 o.undos] 93 (0, 0)) from HPi.out.snd)⟩
  refine hK.out _ _ hSi (fun _ => ?_)
  clear hK K
  (try simp only [Act.put, u1, u2, u3])
  obtain ⟨xc0, xc1⟩ := pair_cells HNi.out
  obtain ⟨xf0, xf1⟩ := pair_frozen HNi.out
  refine tk 10 ⟨some 44, .fieldAddr 32 (.tmp 8) 1, 0, "l06_commands.go:141", #[⟨0, .phase⟩, ⟨1, .phase⟩, ⟨2, .phase⟩, ⟨3, .phase⟩, ⟨4, .phase⟩, ⟨5, .phase⟩, ⟨6, .phase⟩, ⟨7, .phase⟩, ⟨8, .phase⟩, ⟨9, .phase⟩], none⟩ ?_
  (try simp only [Act.put, u1, u2, u3])
  have hne := rowO_ne HRi.out HNi.out (by decide)
  have hbj : Below nb zi (zi.setCell ⟨nb, 1, none⟩ (.slice ra Ln.length rc)) := below_set1 _ _ _ _
  have HPj : Hid (PutF w (zi.setCell ⟨nb, 1, none⟩ (.slice ra Ln.length rc)) #[.slice (some ⟨g, off, none⟩) 4 cv, .slice ao no co] #[.int .i64 (d : Int), .int .i64 (x + 1), .int .i64 (S + 1), .int .i64 o.kind, .string o.item, .int .i64 o.qty, .int .i64 o.level, .int .i64 o.undos] #[.slice none 0 0, .slice none 0 0]) := HPi.out.far (hbj.mono (by omega))
  have HGj : Hid ((zi.setCell ⟨nb, 1, none⟩ (.slice ra Ln.length rc)).heap[gv]? = some (.cells cur 2 (0, 0))) := (hbj.block gv (by omega)).trans HGi.out
  have HNj : Hid ((zi.setCell ⟨nb, 1, none⟩ (.slice ra Ln.length rc)).heap[nb]? = some (.cells #[.slice (some ⟨gv, 0, none⟩) 4 vc, (.slice ra Ln.length rc)] 32 (0, 0))) := heap_setCell_same _ _ _ _ _ _ HNi.out
  have HRj : Hid ((zi.setCell ⟨nb, 1, none⟩ (.slice ra Ln.length rc)).ownsRow mid 93 8 (.slice ra Ln.length rc) Ln.length (opCells Ln)) := rowO_keep HRi.out (fun k y e _ => heap_setCell_other _ _ _ _ (hne k y e))
  have hsj : (zi.setCell ⟨nb, 1, none⟩ (.slice ra Ln.length rc)).heap.size = zi.heap.size := by simp [World.setCell]
  have hSj : (zi.setCell ⟨nb, 1, none⟩ (.slice ra Ln.length rc)).cell? ⟨w.heap.size, 0, none⟩ = some (.slice (some ⟨g, off, none⟩) 4 cv) ∧ (zi.setCell ⟨nb, 1, none⟩ (.slice ra Ln.length rc)).cell? ⟨w.heap.size, 1, none⟩ = some (.slice ao no co) ∧ (zi.setCell ⟨nb, 1, none⟩ (.slice ra Ln.length rc)).cell? ⟨w.heap.size + 1, 0, none⟩ = some (.int .i64 (d : Int)) ∧ (zi.setCell ⟨nb, 1, none⟩ (.slice ra Ln.length rc)).cell? ⟨w.heap.size + 1, 1, none⟩ = some (.int .i64 (x + 1)) ∧ (zi.setCell ⟨nb, 1, none⟩ (.slice ra Ln.length rc)).cell? ⟨w.heap.size + 1, 2, none⟩ = some (.int .i64 (S + 1)) ∧ (zi.setCell ⟨nb, 1, none⟩ (.slice ra Ln.length rc)).cell? ⟨w.heap.size + 1, 3, none⟩ = some (.int .i64 o.kind) ∧ (zi.setCell ⟨nb, 1, none⟩ (.slice ra Ln.length rc)).cell? ⟨w.heap.size + 1, 4, none⟩ = some (.string o.item) ∧ (zi.setCell ⟨nb, 1, none⟩ (.slice ra Ln.length rc)).cell? ⟨w.heap.size + 1, 5, none⟩ = some (.int .i64 o.qty) ∧ (zi.setCell ⟨nb, 1, none⟩ (.slice ra Ln.length rc)).cell? ⟨w.heap.size + 1, 6, none⟩ = some (.int .i64 o.level) ∧ (zi.setCell ⟨nb, 1, none⟩ (.slice ra Ln.length rc)).cell? ⟨w.heap.size + 1, 7, none⟩ = some (.int .i64 o.undos) := ⟨(pair_cells HPj.out.fst).1, (pair_cells HPj.out.fst).2, op_cells (show (zi.setCell ⟨nb, 1, none⟩ (.slice ra Ln.length rc)).heap[w.heap.size + 1]? = some (.cells #[.int .i64 (d : Int), .int .i64 (x + 1), .int .i64 (S + 1), .int .i64 o.kind, .string o.item, .int .i64 o.qty, .int .i64 o.level, .int .i64 o.undos] 93 (0, 0)) from HPj.out.snd)⟩
  refine rk 11 rfl (fun K hK => ?_)
  go_simp
  refine hK.out _ _ hSj (fun hHeld9 => ?_)
  clear hK K
  (try simp only [Act.put, u1, u2, u3])
  refine wpAnyH_done (by kernel_rfl) ?_ _
  clear hSi hSj xc0 xc1 xf0 xf1 hne hbj HPi HGi HNi HRi hSk
  generalize (zi.setCell ⟨nb, 1, none⟩ (.slice ra Ln.length rc)) = zj at HPj HGj HNj HRj hsj ⊢
  apply hKR
  clear hKR KR
  obtain ⟨xc0, xc1⟩ := pair_cells HNj.out
  obtain ⟨o0, o1, o2, o3, o4, o5, o6, o7⟩ := op_cells (show zj.heap[w.heap.size + 1]? = some (.cells #[.int .i64 (d : Int), .int .i64 (x + 1), .int .i64 (S + 1), .int .i64 o.kind, .string o.item, .int .i64 o.qty, .int .i64 o.level, .int .i64 o.undos] 93 (0, 0)) from HPj.out.snd)
  obtain ⟨zz, hcz⟩ : ∃ zz, zj.cell? ⟨gv, d, none⟩ = some zz := ⟨_, (cell_of_row _ _ _ _ _ _ HGj.out).trans (HCU.out d hd)⟩
  have hfz : zj.frozen? ⟨gv, d, none⟩ = false := frozen_of_row _ _ _ _ _ HGj.out
  have HOk : Hid (Own (zj.setCell ⟨gv, d, none⟩ (.int .i64 (x + 1))) w7.heap.size mid (some ⟨gv, 0, none⟩) 4 (xs.set d (x + 1))) := own_set (x + 1) hxl hd hg1 hg2 HGj.out HCU.out
  have hbk : Below gv zj (zj.setCell ⟨gv, d, none⟩ (.int .i64 (x + 1))) := below_set1 _ _ _ _
  have HPk : Hid (PutF w (zj.setCell ⟨gv, d, none⟩ (.int .i64 (x + 1))) #[.slice (some ⟨g, off, none⟩) 4 cv, .slice ao no co] #[.int .i64 (d : Int), .int .i64 (x + 1), .int .i64 (S + 1), .int .i64 o.kind, .string o.item, .int .i64 o.qty, .int .i64 o.level, .int .i64 o.undos] #[.slice none 0 0, .slice none 0 0]) := HPj.out.far (hbk.mono (by omega))
  have HNk : Hid ((zj.setCell ⟨gv, d, none⟩ (.int .i64 (x + 1))).heap[nb]? = some (.cells #[.slice (some ⟨gv, 0, none⟩) 4 vc, (.slice ra Ln.length rc)] 32 (0, 0))) := (heap_setCell_other _ _ _ _ (by show nb ≠ gv; omega)).trans HNj.out
  have HRk : Hid ((zj.setCell ⟨gv, d, none⟩ (.int .i64 (x + 1))).ownsRow mid 93 8 (.slice ra Ln.length rc) Ln.length (opCells Ln)) := rowO_keep HRj.out (fun k y e hk => heap_setCell_other _ _ _ _ (by show k ≠ gv; omega))
  have hsk : (zj.setCell ⟨gv, d, none⟩ (.int .i64 (x + 1))).heap.size = zj.heap.size := by simp [World.setCell]
  go_upto_region 8 with fail
  generalize zj.setCell ⟨gv, d, none⟩ (.int .i64 (x + 1)) = zk at HOk HPk HNk HRk hsk ⊢
  clear xc0 xc1 o0 o1 o2 o3 o4 o5 o6 o7 hcz hfz hbk HPj HGj HNj HRj
  obtain ⟨xc0, xc1⟩ := pair_cells HNk.out
  obtain ⟨r0, r1⟩ := pair_cells HPk.out.res
  obtain ⟨rf0, rf1⟩ := pair_frozen HPk.out.res
  have hX2 := HPk.out.set2 (.slice (some ⟨gv, 0, none⟩) 4 vc) (.slice ra Ln.length rc)
  have HX := Lib.hid hX2.1
  have HBf : Hid (Below w.heap.size w ((zk.setCell ⟨w.heap.size + 1 + 1, 0, none⟩ (.slice (some ⟨gv, 0, none⟩) 4 vc)).setCell ⟨w.heap.size + 1 + 1, 1, none⟩ (.slice ra Ln.length rc))) := HPk.out.bel.trans (hX2.2.mono (by omega))
  have HOf : Hid (Own ((zk.setCell ⟨w.heap.size + 1 + 1, 0, none⟩ (.slice (some ⟨gv, 0, none⟩) 4 vc)).setCell ⟨w.heap.size + 1 + 1, 1, none⟩ (.slice ra Ln.length rc)) w7.heap.size mid (some ⟨gv, 0, none⟩) 4 (xs.set d (x + 1))) := HOk.out.kept (fun j h1 h2 => pair_other _ _ (by omega))
  have HRf := Lib.hid (own_of_cells (rowO_keep (W' := ((zk.setCell ⟨w.heap.size + 1 + 1, 0, none⟩ (.slice (some ⟨gv, 0, none⟩) 4 vc)).setCell ⟨w.heap.size + 1 + 1, 1, none⟩ (.slice ra Ln.length rc))) HRk.out (fun k y e hk => pair_other _ _ (by omega))) (Nat.le_refl _))
  have HCf := Lib.hid (caps_of_row HRk.out)
  have hsf : ((zk.setCell ⟨w.heap.size + 1 + 1, 0, none⟩ (.slice (some ⟨gv, 0, none⟩) 4 vc)).setCell ⟨w.heap.size + 1 + 1, 1, none⟩ (.slice ra Ln.length rc)).heap.size = zk.heap.size := pair_size _ _ _ _
  clear hX2
  go_wp2
  change bodyPost _ _ _ _ _ ((zk.setCell ⟨w.heap.size + 1 + 1, 0, none⟩ (.slice (some ⟨gv, 0, none⟩) 4 vc)).setCell ⟨w.heap.size + 1 + 1, 1, none⟩ (.slice ra Ln.length rc))
  clear xc0 xc1 r0 r1 rf0 rf1 HOk HPk HNk HRk
  generalize ((zk.setCell ⟨w.heap.size + 1 + 1, 0, none⟩ (.slice (some ⟨gv, 0, none⟩) 4 vc)).setCell ⟨w.heap.size + 1 + 1, 1, none⟩ (.slice ra Ln.length rc)) = wf at HX HBf HOf HRf hsf ⊢
  obtain ⟨q0, q1⟩ := pair_cells HX.out
  have hvl : (putV xs d).length = 4 := by rw [HPV.out, List.length_set]; exact hxl
  have hpl3 : putL l d (⟨(d : Int), x + 1, S + 1, o.kind, o.item, o.qty, o.level, o.undos⟩ : OpV) = Ln := by rw [HLN.out]; rfl
  refine bodyPost_ret (v := .tuple #[.agg #[.slice (some ⟨gv, 0, none⟩) 4 vc, (.slice ra Ln.length rc)], .nilIface]) (by simp [results, Tryz.results122, go_sem, q0, q1]) rfl ?_
  rw [HNX.out, hpl3]
  refine .inr ⟨rfl, some ⟨gv, 0, none⟩, vc, ra, rc, mid, ?_, ?_, HRf.out, by omega, by omega, ?_, HCf.out, HBf.out⟩
  ·show _ = Ending.returned (.tuple #[.agg #[.slice (some ⟨gv, 0, none⟩) (putV xs d).length vc, _], _])
   rw [hvl]
  ·show Own wf w.heap.size mid _ (putV xs d).length (putV xs d)
   rw [hvl, HPV.out]
   exact HOf.out.more (by omega) (Nat.le_refl _)
  ·show Caps _ (putV xs d).length vc
   rw [hvl]
   exact HCA.out
/-- Either way. -/
theorem insertedW (w : World) (B : Nat) (E : Int → Addr) (hE : Errs w B E) (g off : Nat) (ao : Option Addr) (cv no co d : Nat) (xs : List Int) (l : List OpV) (o : OpV) (hx : Ints w B (some ⟨g, off, none⟩) 4 xs) (h : Ops w B ao no l) (hB : B ≤ w.heap.size) (hcv : 4 ≤ cv) (hco : Caps ao no co) (hc : cartB xs l = true) (hd : d < 4) (hi : o.item.size ≤ 1048576) :
  Calls Tryz.prog 122 #[.agg #[.slice (some ⟨g, off, none⟩) 4 cv, .slice ao no co], .int .i64 (d : Int), .agg #[.int .i64 o.dev, .int .i64 o.seq, .int .i64 o.stamp, .int .i64 o.kind, .string o.item, .int .i64 o.qty, .int .i64 o.level, .int .i64 o.undos]] w (ChP E (if (nextOp xs l d o).ok = true then (0, putV xs d, putL l d (nextOp xs l d o)) else (4, [], [])) w) := by
 cases hok : (nextOp xs l d o).ok
 ·rw [if_neg (by decide)]
  exact insertedNo w B E hE g off ao cv no co d xs l o hx h hB hcv hco hc hd hi hok
 ·rw [if_pos rfl]
  exact insertedYes w B E hE g off ao cv no co d xs l o hx h hB hcv hco hc hd hi hok
set_option linter.unusedVariables false
set_option linter.unusedSimpArgs false

/-- Three blocks that a call has laid first. -/
structure Trio (w w1 : World) (x : Array Value) (tx : TypeId) (y : Array Value) (ty : TypeId) (z : Array Value) (tz : TypeId) : Prop where
 fst : w1.heap[w.heap.size]? = some (.cells x tx (0, 0))
 snd : w1.heap[w.heap.size + 1]? = some (.cells y ty (0, 0))
 res : w1.heap[w.heap.size + 1 + 1]? = some (.cells z tz (0, 0))
 bel : Below w.heap.size w w1
theorem Trio.mk0 (w : World) (x y z : Array Value) (tx ty tz : TypeId) : Trio w (((w.alloc (.cells x tx)).alloc (.cells y ty)).alloc (.cells z tz)) x tx y ty z tz := by
 have e1 : (w.alloc (.cells x tx)).heap.size = w.heap.size + 1 := by simp
 have e2 : ((w.alloc (.cells x tx)).alloc (.cells y ty)).heap.size = w.heap.size + 1 + 1 := by simp
 refine ⟨?_, ?_, ?_, (((Below.refl _ w).alloc (Nat.le_refl _) _).alloc (by simp) _).alloc (by simp; omega) _⟩
 ·exact ((Below.heap_alloc _ _ _ (by omega)).trans (Below.heap_alloc _ _ _ (by omega))).trans (heap_alloc_new _ _)
 ·rw [← e1]; exact (Below.heap_alloc _ _ _ (by omega)).trans (heap_alloc_new _ _)
 ·rw [← e2]; exact heap_alloc_new _ _
section
variable {w w1 w2 : World} {x y z : Array Value} {tx ty tz : TypeId}
theorem Trio.next (h : Trio w w1 x tx y ty z tz) (hb : Below w1.heap.size w1 w2) : Trio w w2 x tx y ty z tz :=
 ⟨(hb.block _ (Array.getElem?_eq_some_iff.1 h.fst).1).trans h.fst, (hb.block _ (Array.getElem?_eq_some_iff.1 h.snd).1).trans h.snd, (hb.block _ (Array.getElem?_eq_some_iff.1 h.res).1).trans h.res, h.bel.trans (hb.mono h.bel.size)⟩
theorem Trio.lt (h : Trio w w1 x tx y ty z tz) : w.heap.size + 1 + 1 < w1.heap.size := (Array.getElem?_eq_some_iff.1 h.res).1
theorem Trio.set2 {z0 z1 : Value} (h : Trio w w1 x tx y ty #[z0, z1] tz) (u v : Value) :
  ((w1.setCell ⟨w.heap.size + 1 + 1, 0, none⟩ u).setCell ⟨w.heap.size + 1 + 1, 1, none⟩ v).heap[w.heap.size + 1 + 1]? = some (.cells #[u, v] tz (0, 0)) ∧ Below (w.heap.size + 1 + 1) w1 ((w1.setCell ⟨w.heap.size + 1 + 1, 0, none⟩ u).setCell ⟨w.heap.size + 1 + 1, 1, none⟩ v) :=
 ⟨pair_set _ _ h.res, below_set2 _ _ _ _ _ _⟩
end
theorem cmd_cells5 {w : World} {b : Nat} {v0 v1 v2 v3 v4 : Value} {T : TypeId} {fr : Nat × Nat} (h : w.heap[b]? = some (.cells #[v0, v1, v2, v3, v4] T fr)) : w.cell? ⟨b, 0, none⟩ = some v0 ∧ w.cell? ⟨b, 1, none⟩ = some v1 ∧ w.cell? ⟨b, 2, none⟩ = some v2 ∧ w.cell? ⟨b, 3, none⟩ = some v3 ∧ w.cell? ⟨b, 4, none⟩ = some v4 :=
 ⟨cell_of_row _ _ _ _ _ _ h, cell_of_row _ _ _ _ _ _ h, cell_of_row _ _ _ _ _ _ h, cell_of_row _ _ _ _ _ _ h, cell_of_row _ _ _ _ _ _ h⟩
theorem ChP.form {E : Int → Addr} {r : Int × List Int × List OpV} {w w' : World} {e : Ending} (h : ChP E r w e w') : ∃ a n c a' n' c' er, e = .returned (.tuple #[.agg #[.slice a n c, .slice a' n' c'], er]) := by
 rcases h with ⟨_, e1, _⟩ | ⟨_, va, vc, oa, oc, mid, e1, _⟩
 ·exact ⟨_, _, _, _, _, _, _, e1⟩
 ·exact ⟨_, _, _, _, _, _, _, e1⟩
theorem ChP.bel {E : Int → Addr} {r : Int × List Int × List OpV} {w w' : World} {e : Ending} (h : ChP E r w e w') : Below w.heap.size w w' := by
 rcases h with ⟨_, _, h⟩ | ⟨_, va, vc, oa, oc, mid, _, _, _, _, _, _, _, h⟩
 ·exact h
 ·exact h
theorem ChP.up {E : Int → Addr} {r : Int × List Int × List OpV} {w w2 w3 wf : World} {e : Ending} (h : ChP E r w2 e w3) (hs : w.heap.size ≤ w2.heap.size) (hk : ∀ j, w2.heap.size ≤ j → wf.heap[j]? = w3.heap[j]?) (hz : wf.heap.size = w3.heap.size) (hb : Below w.heap.size w wf) : ChP E r w e wf := by
 rcases h with ⟨h1, h2, _⟩ | ⟨h0, va, vc, oa, oc, mid, h1, h2, h3, h4, h5, h6, h7, _⟩
 ·exact .inl ⟨h1, h2, hb⟩
 ·exact .inr ⟨h0, va, vc, oa, oc, mid, h1, (h2.kept (fun j a b => hk j a)).more hs (Nat.le_refl _), by rw [hz]; exact h3.kept (fun j a b => hk j (by omega)), by omega, by omega, h6, h7, hb⟩
theorem ChP.eqr {E : Int → Addr} {r r' : Int × List Int × List OpV} {w w' : World} {e : Ending} (h : ChP E r w e w') (e1 : r = r') : ChP E r' w e w' := e1 ▸ h
theorem one_state {xs : List Int} {l : List OpV} (h : cartB xs l = true) (item : ByteArray) (kind qty : Int) : oneOf (stateV item (counted xs l)).level (decide ((stateV item (counted xs l)).placed.kind = 4)) kind item qty = oneOf (levTo item l l.length) (savedL l item) kind item qty := by
 have e : stateV item (counted xs l) = ⟨levTo item l l.length, bestTo cntB item l l.length, bestTo plcB item l l.length⟩ := by
  unfold counted
  rw [if_pos h, state_to h item _ (Nat.le_refl _)]
 rw [e]
 rfl
set_option maxHeartbeats 40000000 in
theorem withItemChangedW (w : World) (B : Nat) (E : Int → Addr) (hE : Errs w B E) (g off : Nat) (ao : Option Addr) (cv no co d : Nat) (xs : List Int) (l : List OpV) (kind qty dv sq : Int) (item : ByteArray) (hx : Ints w B (some ⟨g, off, none⟩) 4 xs) (h : Ops w B ao no l) (hB : B ≤ w.heap.size) (hcv : 4 ≤ cv) (hco : Caps ao no co) (hc : cartB xs l = true) (hd : d < 4) (hi : item.size ≤ 1048576) :
  Calls Tryz.prog 101 #[.agg #[.slice (some ⟨g, off, none⟩) 4 cv, .slice ao no co], .int .i64 (d : Int), .agg #[.int .i64 kind, .string item, .int .i64 qty, .int .i64 dv, .int .i64 sq]] w (ChP E (oneN xs l d kind item qty) w) := by
 have hno : no ≤ 160 := by rw [← h.1]; exact cart_length hc
 have hlv := cart_level hc item l.length (Nat.le_refl _)
 have hlv0 : 0 ≤ levTo item l l.length := levTo_pos item l l.length
 have hsl : (stateV item (counted xs l)).level = levTo item l l.length := by
  unfold counted
  rw [if_pos hc, state_to hc item _ (Nat.le_refl _)]
 have hT := Trio.mk0 w #[.slice (some ⟨g, off, none⟩) 4 cv, .slice ao no co] #[.int .i64 kind, .string item, .int .i64 qty, .int .i64 dv, .int .i64 sq] #[.slice none 0 0, .slice none 0 0] 32 36 32
 have HV := Lib.hid (hx.below hT.bel hB)
 have HO := Lib.hid (h.below hT.bel hB)
 have HE := Lib.hid (hE.below hT.bel hB)
 have HT := Lib.hid hT
 have HCO := Lib.hid hco
 have HC := Lib.hid hc
 have HR := one_state hc item kind qty
 have HON : oneN xs l d kind item qty = (if (oneOf (levTo item l l.length) (savedL l item) kind item qty).2 = 0 then (if (nextOp xs l d (oneOf (levTo item l l.length) (savedL l item) kind item qty).1).ok = true then (0, putV xs d, putL l d (nextOp xs l d (oneOf (levTo item l l.length) (savedL l item) kind item qty).1)) else (4, [], [])) else ((oneOf (levTo item l l.length) (savedL l item) kind item qty).2, [], [])) := rfl
 have hoi := oneOf_item (levTo item l l.length) (savedL l item) kind item qty
 generalize oneOf (levTo item l l.length) (savedL l item) kind item qty = r at HR HON hoi
 rw [HON]
 obtain ⟨R, hR⟩ : ∃ R : Int × List Int × List OpV, R = (if r.2 = 0 then (if (nextOp xs l d r.1).ok = true then (0, putV xs d, putL l d (nextOp xs l d r.1)) else (4, [], [])) else (r.2, [], [])) := ⟨_, rfl⟩
 rw [← hR]
 have HRR := Lib.hid hR
 have hri : r.1.item.size ≤ 1048576 := by
  rcases hoi with e | e
  ·rw [e]; exact hi
  ·rw [e]; decide
 have HR := Lib.hid HR
 have HSL := Lib.hid hsl
 clear hx h hT hco hE hc HON hoi hsl hR
 go_enter Tryz.func101, Tryz.ntmps101
 go_upto_region 1 with fail
 generalize ((w.alloc (.cells #[.slice (some ⟨g, off, none⟩) 4 cv, .slice ao no co] 32)).alloc (.cells #[.int .i64 kind, .string item, .int .i64 qty, .int .i64 dv, .int .i64 sq] 36)).alloc (.cells #[.slice none 0 0, .slice none 0 0] 32) = w0 at HV HO HE HT ⊢
 obtain ⟨c0, c1⟩ := pair_cells HT.out.fst
 obtain ⟨d0, d1, d2, d3, d4⟩ := cmd_cells5 HT.out.snd
 have hs0 := HT.out.lt
 go_wp2_with fail
 refine (opForW w0 B E HE.out (some ⟨g, off, none⟩) ao 4 cv no co xs l kind qty dv sq item HV.out HO.out (by omega) (by omega) HCO.out.1 ⟨by omega, HCO.out.2.1⟩ hi _ rfl (by rw [HSL.out]; exact hlv0) (by rw [HSL.out]; omega)).mono ?_
 rintro e w1 ⟨rfl, hb⟩
 rw [HR.out]
 have HT1 := Lib.hid (HT.out.next hb)
 have HV1 := Lib.hid (HV.out.below hb (by omega))
 have HO1 := Lib.hid (HO.out.below hb (by omega))
 have HE1 := Lib.hid (HE.out.below hb (by omega))
 have hs1 := hb.size
 clear hb c0 c1 d0 d1 d2 d3 d4 HT HV HO HE HR HSL
 obtain ⟨o, code⟩ := r
 dsimp only at hri ⊢
 obtain ⟨c0, c1⟩ := pair_cells HT1.out.fst
 by_cases hcd : code = 0
 ·subst hcd
  rw [errV_0]
  go_upto_region 2 with fail
  have hbb := ((Below.refl w1.heap.size w1).alloc (Nat.le_refl _) (.cells #[.int .i64 o.dev, .int .i64 o.seq, .int .i64 o.stamp, .int .i64 o.kind, .string o.item, .int .i64 o.qty, .int .i64 o.level, .int .i64 o.undos] 93))
  have HT2 := Lib.hid (HT1.out.next hbb)
  have HV2 := Lib.hid (HV1.out.below hbb (by omega))
  have HO2 := Lib.hid (HO1.out.below hbb (by omega))
  have HE2 := Lib.hid (HE1.out.below hbb (by omega))
  have HN2 := Lib.hid (heap_alloc_new w1 (.cells #[.int .i64 o.dev, .int .i64 o.seq, .int .i64 o.stamp, .int .i64 o.kind, .string o.item, .int .i64 o.qty, .int .i64 o.level, .int .i64 o.undos] 93))
  have hs2 := hbb.size
  clear hbb c0 c1 HT1 HV1 HO1 HE1
  generalize w1.alloc (.cells #[.int .i64 o.dev, .int .i64 o.seq, .int .i64 o.stamp, .int .i64 o.kind, .string o.item, .int .i64 o.qty, .int .i64 o.level, .int .i64 o.undos] 93) = w2 at HT2 HV2 HO2 HE2 HN2 hs2 ⊢
  generalize w1.heap.size = ob at hs1 hs2 HN2 ⊢
  obtain ⟨c0, c1⟩ := pair_cells HT2.out.fst
  obtain ⟨o0, o1, o2, o3, o4, o5, o6, o7⟩ := op_cells HN2.out
  go_wp2_with fail
  refine (insertedW w2 B E HE2.out g off ao cv no co d xs l o HV2.out HO2.out (by omega) hcv HCO.out  HC.out hd hri).mono ?_
  intro e w3 hch
  obtain ⟨a, n, c, a', n', c', er, rfl⟩ := hch.form
  have HCh := Lib.hid hch
  have hb3 := hch.bel
  have HT3 := Lib.hid (HT2.out.next hb3)
  have hs3 := hb3.size
  clear hch hb3 c0 c1 o0 o1 o2 o3 o4 o5 o6 o7 HV2 HO2 HE2 HN2 HT2
  obtain ⟨r0, r1⟩ := pair_cells HT3.out.res
  obtain ⟨rf0, rf1⟩ := pair_frozen HT3.out.res
  have HX := Lib.hid (HT3.out.set2 (.slice a n c) (.slice a' n' c')).1
  have HBf := Lib.hid (HT3.out.bel.trans ((HT3.out.set2 (.slice a n c) (.slice a' n' c')).2.mono (by omega)))
  have hszf := pair_size w3 (w.heap.size + 1 + 1) (.slice a n c) (.slice a' n' c')
  have HKf : Hid (∀ j, w2.heap.size ≤ j → ((w3.setCell ⟨w.heap.size + 1 + 1, 0, none⟩ (.slice a n c)).setCell ⟨w.heap.size + 1 + 1, 1, none⟩ (.slice a' n' c')).heap[j]? = w3.heap[j]?) := fun j hj => pair_other _ _ (by omega)
  go_wp2
  change bodyPost _ _ _ _ _ ((w3.setCell ⟨w.heap.size + 1 + 1, 0, none⟩ (.slice a n c)).setCell ⟨w.heap.size + 1 + 1, 1, none⟩ (.slice a' n' c'))
  clear r0 r1 rf0 rf1
  generalize (w3.setCell ⟨w.heap.size + 1 + 1, 0, none⟩ (.slice a n c)).setCell ⟨w.heap.size + 1 + 1, 1, none⟩ (.slice a' n' c') = wf at HX HBf HKf hszf ⊢
  obtain ⟨q0, q1⟩ := pair_cells HX.out
  exact bodyPost_ret (v := .tuple #[.agg #[.slice a n c, .slice a' n' c'], er]) (by simp [results, Tryz.results101, go_sem, q0, q1]) rfl ((HCh.out.up (by omega) HKf.out hszf HBf.out).eqr (by rw [HRR.out]; exact (if_pos trivial).symm))
 ·obtain ⟨er, her⟩ : ∃ er, er = errV E code := ⟨_, rfl⟩
  rw [← her]
  have HER : Hid (er = errV E code) := her
  have her2 : er = .iface 240 (.pointer (some (E code))) := by rw [her]; unfold errV; rw [if_neg hcd]
  clear her
  go_upto_region 2 with fail
  have hbb := ((Below.refl w1.heap.size w1).alloc (Nat.le_refl _) (.cells #[.int .i64 o.dev, .int .i64 o.seq, .int .i64 o.stamp, .int .i64 o.kind, .string o.item, .int .i64 o.qty, .int .i64 o.level, .int .i64 o.undos] 93))
  have HT2 := Lib.hid (HT1.out.next hbb)
  clear hbb c0 c1 HT1 HV1 HO1 HE1
  generalize w1.alloc (.cells #[.int .i64 o.dev, .int .i64 o.seq, .int .i64 o.stamp, .int .i64 o.kind, .string o.item, .int .i64 o.qty, .int .i64 o.level, .int .i64 o.undos] 93) = w2 at HT2 ⊢
  generalize w1.heap.size = ob at hs1 ⊢
  obtain ⟨r0, r1⟩ := pair_cells HT2.out.res
  obtain ⟨rf0, rf1⟩ := pair_frozen HT2.out.res
  have HX := Lib.hid (HT2.out.set2 (.slice none 0 0) (.slice none 0 0)).1
  have HBf := Lib.hid (HT2.out.bel.trans ((HT2.out.set2 (.slice none 0 0) (.slice none 0 0)).2.mono (by omega)))
  subst her2
  go_wp2
  change bodyPost _ _ _ _ _ ((w2.setCell ⟨w.heap.size + 1 + 1, 0, none⟩ (.slice none 0 0)).setCell ⟨w.heap.size + 1 + 1, 1, none⟩ (.slice none 0 0))
  clear r0 r1 rf0 rf1
  generalize (w2.setCell ⟨w.heap.size + 1 + 1, 0, none⟩ (.slice none 0 0)).setCell ⟨w.heap.size + 1 + 1, 1, none⟩ (.slice none 0 0) = wf at HX HBf ⊢
  obtain ⟨q0, q1⟩ := pair_cells HX.out
  exact bodyPost_ret (v := .tuple #[.agg #[.slice none 0 0, .slice none 0 0], .iface 240 (.pointer (some (E code)))]) (by simp [results, Tryz.results101, go_sem, q0, q1]) rfl ((show ChP E (code, [], []) w _ wf from .inl ⟨hcd, by rw [← HER.out], HBf.out⟩).eqr (by rw [HRR.out]; exact (if_neg hcd).symm))
set_option linter.unusedVariables false
set_option linter.unusedSimpArgs false

theorem two_set2 {w w1 : World} {x : Array Value} {z0 z1 : Value} {T : TypeId} (h : Two w w1 x #[z0, z1] T) (u v : Value) :
  ((w1.setCell ⟨w.heap.size + 1, 0, none⟩ u).setCell ⟨w.heap.size + 1, 1, none⟩ v).heap[w.heap.size + 1]? = some (.cells #[u, v] T (0, 0)) ∧ Below (w.heap.size + 1) w1 ((w1.setCell ⟨w.heap.size + 1, 0, none⟩ u).setCell ⟨w.heap.size + 1, 1, none⟩ v) :=
 ⟨pair_set _ _ h.snd, below_set2 _ _ _ _ _ _⟩
theorem two_lt {w w1 : World} {x y : Array Value} {T : TypeId} (h : Two w w1 x y T) : w.heap.size + 1 < w1.heap.size := (Array.getElem?_eq_some_iff.1 h.snd).1
theorem opCells_tog : ∀ (l : List OpV) (i : Nat), i < l.length → (opCells l).set (i * 8 + 7) (.int .i64 ((l.getD i OpV.zero).undos + 1)) = opCells (l.set i (onceMore (l.getD i OpV.zero)))
 | [], i, h => by simp at h
 | x :: l, 0, _ => rfl
 | x :: l, i + 1, h => by
  have ih := opCells_tog l i (by simpa using h)
  show (opRow x ++ opCells l).set ((i + 1) * 8 + 7) (.int .i64 ((l.getD i OpV.zero).undos + 1)) = opRow x ++ opCells (l.set i (onceMore (l.getD i OpV.zero)))
  rw [← ih, show (i + 1) * 8 + 7 = (i * 8 + 7) + 8 by omega]
  rfl
theorem rowO_form {W : World} {base n m c : Nat} {a : Option Addr} {xs : List Value} (h : W.ownsRow base 93 8 (.slice a m c) n xs) (hn : 0 < n) : ∃ k, a = some ⟨k, 0, none⟩ ∧ base ≤ k ∧ k < W.heap.size := by
 rcases h.2 with ⟨_, e⟩ | ⟨g, cap, cur, e, hg, hc, _⟩
 ·omega
 ·injection e with e1 _ _
  exact ⟨g, e1, hg, (Array.getElem?_eq_some_iff.1 hc).1⟩
set_option maxHeartbeats 40000000 in
theorem undoneOnceMoreW (w : World) (B : Nat) (E : Int → Addr) (hE : Errs w B E) (g off : Nat) (ao : Option Addr) (cv no co d : Nat) (xs : List Int) (l : List OpV) (s : Int) (hx : Ints w B (some ⟨g, off, none⟩) 4 xs) (h : Ops w B ao no l) (hB : B ≤ w.heap.size) (hcv : 4 ≤ cv) (hco : Caps ao no co) (hc : cartB xs l = true) (hd : d < 4) :
  Calls Tryz.prog 99 #[.agg #[.slice (some ⟨g, off, none⟩) 4 cv, .slice ao no co], .int .i64 (d : Int), .int .i64 s] w (ChP E (tglN xs l (d : Int) s) w) := by
 obtain ⟨hxl, hxa⟩ := cart_vecs hc
 obtain ⟨hx0, hx1⟩ := hxa d hd
 clear hxl
 have hno : no ≤ 160 := by rw [← h.1]; exact cart_length hc
 have HM : Hid (∀ i, i < no → (l.getD i OpV.zero).item.size ≤ 1048576) := fun i hi' => by
  have h2 := (op_bounds (cart_op hc (i := i) (by rw [h.1]; exact hi'))).2.2.2.2.1
  have e : atOp l i = l.getD i OpV.zero := rfl
  rw [← e]
  omega
 have HU : Hid (∀ i, i < no → 0 ≤ (l.getD i OpV.zero).undos ∧ (l.getD i OpV.zero).undos ≤ 50) := fun i hi' => by
  have h2 := op_bounds (cart_op hc (i := i) (by rw [h.1]; exact hi'))
  have e : atOp l i = l.getD i OpV.zero := rfl
  rw [← e]
  exact ⟨h2.2.2.2.2.2.1, h2.2.2.2.2.2.2.1⟩
 have hT := Two.mk0 w #[.slice (some ⟨g, off, none⟩) 4 cv, .slice ao no co] #[.slice none 0 0, .slice none 0 0] 32
 have HV := Lib.hid (hx.below hT.bel hB)
 have HO := Lib.hid (h.below hT.bel hB)
 have HE := Lib.hid (hE.below hT.bel hB)
 have HT := Lib.hid hT
 have HLo := Lib.hid h.1
 have HCO := Lib.hid hco
 have HC := Lib.hid hc
 have hvo : vecOk xs = true := (cart_split hc).1
 have hE5 := hE.low
 have HNO : Hid (¬ (1 ≤ s ∧ s ≤ xs.getD d 0) → tglN xs l (d : Int) s = (2, [], [])) := fun hn => by
  unfold tglN
  rw [if_neg (place_no hc hd hn)]
 have HYE : Hid (1 ≤ s → s ≤ xs.getD d 0 → stOf xs d + (s.toNat - 1) < l.length ∧ tglN xs l (d : Int) s = (if (atOp l (stOf xs d + (s.toNat - 1))).undos = 50 then (4, [], []) else (0, xs, togU l (stOf xs d + (s.toNat - 1))))) := fun h1 h2 => by
  obtain ⟨q1, q2⟩ := place_has hc hd h1 h2
  refine ⟨q1, ?_⟩
  unfold tglN
  rw [q2, if_pos q1]
 clear hx h hT hco hE hc hxa
 go_enter Tryz.func99, Tryz.ntmps99
 go_upto_region 1 with fail
 generalize (w.alloc (.cells #[.slice (some ⟨g, off, none⟩) 4 cv, .slice ao no co] 32)).alloc (.cells #[.slice none 0 0, .slice none 0 0] 32) = w0 at HV HO HE HT ⊢
 obtain ⟨b, off', he, hb, hcl⟩ := HV.out.2 d hd
 injection he with he
 injection he with he1 he2
 subst he1 he2
 obtain ⟨x, hxe⟩ : ∃ x, x = xs.getD d 0 := ⟨_, rfl⟩
 rw [← hxe] at HNO HYE hcl hx0 hx1
 clear hxe
 have hdi : (d : Int) < 4 := by omega
 have hs0 := two_lt HT.out
 obtain ⟨c0, c1⟩ := pair_cells HT.out.fst
 go_wp2_with fail
 refine (inRange s 1 x w0).mono ?_
 rintro e w1 ⟨rfl, rfl⟩
 clear hcl
 by_cases hin : 1 ≤ s ∧ s ≤ x
 rotate_left
 ·have hib : inB s 1 x = false := inB_no (by omega)
  rw [hib]
  have HTG := Lib.hid (HNO.out hin)
  have g2 := gErr2 HE.out
  go_wp2_with fail
  refine wp_region_held_drew (S := fun w' => w'.cell? ⟨2, 0, none⟩ = some (.iface 240 (.pointer (some (E 2))))) (by kernel_rfl) g2 (fun hHeld => ?_)
  have HBz : Hid (Below w0.heap.size w0 w0.drew) := ⟨rfl, rfl, rfl, Nat.le_refl _, fun _ _ => rfl⟩
  generalize w0.drew = z0 at HBz hHeld ⊢
  have HTz := Lib.hid (HT.out.next HBz.out)
  obtain ⟨r0, r1⟩ := pair_cells HTz.out.snd
  obtain ⟨rf0, rf1⟩ := pair_frozen HTz.out.snd
  refine tk 0 ⟨some 18, .build 32 #[], 32, "l06_commands.go:198", #[], none⟩ ?_
  (try simp only [Act.put, u1, u2, u3])
  refine tk 1 ⟨some 19, .load 65 (Operand.global 2), 65, "l06_commands.go:198", #[{ on := 2, ground := Ground.gcOnly Departure.lateStores }], none⟩ ?_
  (try simp only [Act.put, u1, u2, u3])
  refine rk 2 rfl (fun K hK => ?_)
  go_simp
  refine hK.out _ _ ((World.cell?_of_block (a := ⟨2, 0, none⟩) (pair_other (w := z0) (b := w.heap.size + 1) (k := 2) (.slice none 0 0) (.slice none 0 0) (by omega))).trans hHeld) (fun hHeld2 => ?_)
  clear hK K
  (try simp only [Act.put, u1, u2, u3])
  refine tk 3 ⟨some 7, .assign (.tmp 19), 65, "l06_commands.go:198", #[⟨1, .data⟩, ⟨2, .chain⟩, ⟨0, .phase⟩, ⟨1, .phase⟩, ⟨2, .phase⟩], none⟩ ?_
  (try simp only [Act.put, u1, u2, u3])
  refine wpAnyH_done (by kernel_rfl) ?_ _
  have HX := Lib.hid (two_set2 HTz.out (.slice none 0 0) (.slice none 0 0)).1
  have HBf := Lib.hid (HTz.out.bel.trans ((two_set2 HTz.out (.slice none 0 0) (.slice none 0 0)).2.mono (by omega)))
  go_wp2
  change bodyPost _ _ _ _ _ ((z0.setCell ⟨w.heap.size + 1, 0, none⟩ (.slice none 0 0)).setCell ⟨w.heap.size + 1, 1, none⟩ (.slice none 0 0))
  clear r0 r1 rf0 rf1 hHeld hHeld2
  generalize ((z0.setCell ⟨w.heap.size + 1, 0, none⟩ (.slice none 0 0)).setCell ⟨w.heap.size + 1, 1, none⟩ (.slice none 0 0)) = wf at HX HBf ⊢
  obtain ⟨q0, q1⟩ := pair_cells HX.out
  exact bodyPost_ret (v := .tuple #[.agg #[.slice none 0 0, .slice none 0 0], (.iface 240 (.pointer (some (E 2))))]) (by simp [results, Tryz.results99, go_sem, q0, q1]) rfl ((show ChP E (2, [], []) w _ wf from .inl ⟨by decide, by rw [errV_2], HBf.out⟩).eqr HTG.out.symm)
 have hib : inB s 1 x = true := inB_yes hin.1 hin.2
 obtain ⟨hpl, htg⟩ := HYE.out hin.1 hin.2
 rw [hib]
 have HT0 := Lib.hid htg
 clear htg hib
 go_wp2_with fail
 refine (placeOfW w0 B (some ⟨g, off, none⟩) ao cv no co d xs HV.out (by omega) hcv hd hvo s (by omega) (by omega)).mono ?_
 rintro e w1 ⟨rfl, hb1⟩
 generalize stOf xs d + (s.toNat - 1) = q at hpl HT0 ⊢
 have HT1 := Lib.hid (HT.out.next hb1)
 have HV1 := Lib.hid (HV.out.below hb1 (by omega))
 have HO1 := Lib.hid (HO.out.below hb1 (by omega))
 have HE1 := Lib.hid (HE.out.below hb1 (by omega))
 have hs1 := hb1.size
 clear hb1 c0 c1 HT HV HO HE HNO HYE
 obtain ⟨c0, c1⟩ := pair_cells HT1.out.fst
 have hqn : q < no := by have := HLo.out; omega
 have hqi : (q : Int) < (no : Int) := by omega
 obtain ⟨bo, oo, rfl, hbo, hoa⟩ := HO1.out.2 q hqn
 obtain ⟨_, _, _, _, _, _, _, u7⟩ := hoa
 obtain ⟨hu0, hu1⟩ := HU.out q hqn
 obtain ⟨u, hue⟩ : ∃ u, u = (l.getD q OpV.zero).undos := ⟨_, rfl⟩
 rw [← hue] at u7 hu0 hu1
 have HUE := Lib.hid hue
 clear hue
 by_cases h50 : u = 50
 ·subst h50
  have HTG : Hid (tglN xs l (d : Int) s = (4, [], [])) := by
   show _ = _
   rw [HT0.out]
   exact if_pos HUE.out.symm
  have g4 := gErr4 HE1.out
  go_wp2_with fail
  refine wp_region_held_drew (S := fun w' => w'.cell? ⟨4, 0, none⟩ = some (.iface 240 (.pointer (some (E 4))))) (by kernel_rfl) g4 (fun hHeld => ?_)
  have HBz : Hid (Below w1.heap.size w1 w1.drew) := ⟨rfl, rfl, rfl, Nat.le_refl _, fun _ _ => rfl⟩
  generalize w1.drew = z0 at HBz hHeld ⊢
  have HTz := Lib.hid (HT1.out.next HBz.out)
  obtain ⟨r0, r1⟩ := pair_cells HTz.out.snd
  obtain ⟨rf0, rf1⟩ := pair_frozen HTz.out.snd
  refine tk 0 ⟨some 31, .build 32 #[], 32, "l06_commands.go:202", #[], none⟩ ?_
  (try simp only [Act.put, u1, u2, u3])
  refine tk 1 ⟨some 32, .load 65 (Operand.global 4), 65, "l06_commands.go:202", #[{ on := 2, ground := Ground.gcOnly Departure.lateStores }], none⟩ ?_
  (try simp only [Act.put, u1, u2, u3])
  refine rk 2 rfl (fun K hK => ?_)
  go_simp
  refine hK.out _ _ ((World.cell?_of_block (a := ⟨4, 0, none⟩) (pair_other (w := z0) (b := w.heap.size + 1) (k := 4) (.slice none 0 0) (.slice none 0 0) (by omega))).trans hHeld) (fun hHeld2 => ?_)
  clear hK K
  (try simp only [Act.put, u1, u2, u3])
  refine tk 3 ⟨some 7, .assign (.tmp 32), 65, "l06_commands.go:202", #[⟨1, .data⟩, ⟨2, .chain⟩, ⟨0, .phase⟩, ⟨1, .phase⟩, ⟨2, .phase⟩], none⟩ ?_
  (try simp only [Act.put, u1, u2, u3])
  refine wpAnyH_done (by kernel_rfl) ?_ _
  have HX := Lib.hid (two_set2 HTz.out (.slice none 0 0) (.slice none 0 0)).1
  have HBf := Lib.hid (HTz.out.bel.trans ((two_set2 HTz.out (.slice none 0 0) (.slice none 0 0)).2.mono (by omega)))
  go_wp2
  change bodyPost _ _ _ _ _ ((z0.setCell ⟨w.heap.size + 1, 0, none⟩ (.slice none 0 0)).setCell ⟨w.heap.size + 1, 1, none⟩ (.slice none 0 0))
  clear r0 r1 rf0 rf1 hHeld hHeld2
  generalize ((z0.setCell ⟨w.heap.size + 1, 0, none⟩ (.slice none 0 0)).setCell ⟨w.heap.size + 1, 1, none⟩ (.slice none 0 0)) = wf at HX HBf ⊢
  obtain ⟨q0, q1⟩ := pair_cells HX.out
  exact bodyPost_ret (v := .tuple #[.agg #[.slice none 0 0, .slice none 0 0], (.iface 240 (.pointer (some (E 4))))]) (by simp [results, Tryz.results99, go_sem, q0, q1]) rfl ((show ChP E (4, [], []) w _ wf from .inl ⟨by decide, by rw [errV_4], HBf.out⟩).eqr HTG.out.symm)
 have h50b : (u == 50) = false := beq_eq_false_iff_ne.2 h50
 have HTG : Hid (tglN xs l (d : Int) s = (0, xs, togU l q)) := by
  show _ = _
  rw [HT0.out]
  exact if_neg (fun h => h50 (HUE.out.trans h))
 go_wp2_with fail
 clear u7
 refine (copiedCartR w1 B g off (some ⟨bo, oo, none⟩) 4 cv no co xs l HV1.out HO1.out (by omega) (by omega) (by omega) (by omega) HCO.out.2.2  HM.out).mono ?_
 rintro e w8 ⟨va, vc, oa, oc, mid, rfl, hown, hrow, hm1, hm2, hb8, hcap⟩
 have HT8 := Lib.hid (HT1.out.next hb8)
 have hs8 := hb8.size
 obtain ⟨go, rfl, hgo1, hgo2⟩ := rowO_form hrow (by have := HLo.out; omega)
 have HW8 := Lib.hid hown
 have HCA := Lib.hid hcap
 have HR8 := Lib.hid hrow
 have hl1 := two_lt HT1.out
 clear hb8 hown hcap hrow c0 c1 HT1 HV1 HO1 HE1
 go_upto_region 7 with fail
 have hbb := ((Below.refl w8.heap.size w8).alloc (Nat.le_refl _) (.cells #[.slice va xs.length vc, .slice (some ⟨go, 0, none⟩) l.length oc] 32))
 have HT9 := Lib.hid (HT8.out.next hbb)
 have HW9 := Lib.hid (HW8.out.below hbb (by omega))
 have HR9 := Lib.hid (rowO_step (B := 0) HR8.out hbb)
 have HN9 := Lib.hid (heap_alloc_new w8 (.cells #[.slice va xs.length vc, .slice (some ⟨go, 0, none⟩) l.length oc] 32))
 have hs9 := hbb.size
 clear hbb HT8 HW8 HR8
 generalize w8.alloc (.cells #[.slice va xs.length vc, .slice (some ⟨go, 0, none⟩) l.length oc] 32) = w9 at HT9 HW9 HR9 HN9 hs9 ⊢
 have hx9 : w8.heap.size < w9.heap.size := (Array.getElem?_eq_some_iff.1 HN9.out).1
 generalize w8.heap.size = nb at hs8 hs9 hx9 HN9 hm2 hgo2 ⊢
 obtain ⟨c0, c1⟩ := pair_cells HN9.out
 have hql : (q : Int) < (l.length : Int) := by have := HLo.out; omega
 have hqk : q < l.length := by have := HLo.out; omega
 have hcu : (opCells l)[q * 8 + 7]? = some (.int .i64 u) := by
  rw [HUE.out]
  exact (opCells_at l q 7 hqk (by omega)).trans rfl
 have u7 : w9.cell? ⟨go, q * 8 + 7, none⟩ = some (.int .i64 u) := (HR9.out.cellAt (q * 8 + 7) (by omega)).trans hcu
 have f7 : w9.frozen? ⟨go, q * 8 + 7, none⟩ = false := HR9.out.frozenAt (q * 8 + 7)
 have hwu : IntKind.i64.wrap (u + 1) = u + 1 := IntWalk.i64_in _ (by omega)
 have hst := HR9.out.stored (q * 8 + 7) (.int .i64 (u + 1))
 have HRa : Hid ((w9.setCell ⟨go, q * 8 + 7, none⟩ (.int .i64 (u + 1))).ownsRow mid 93 8 (.slice (some ⟨go, 0, none⟩) l.length oc) l.length (opCells (togU l q))) := by
  have e : opCells (togU l q) = (opCells l).set (q * 8 + 7) (.int .i64 (u + 1)) := by
   rw [HUE.out]
   exact (opCells_tog l q hqk).symm
  rw [e]
  exact hst.1
 have hba : Below go w9 (w9.setCell ⟨go, q * 8 + 7, none⟩ (.int .i64 (u + 1))) := below_set1 _ _ _ _
 have HTa : Hid (Two w (w9.setCell ⟨go, q * 8 + 7, none⟩ (.int .i64 (u + 1))) #[.slice (some ⟨g, off, none⟩) 4 cv, .slice (some ⟨bo, oo, none⟩) no co] #[.slice none 0 0, .slice none 0 0] 32) := ⟨(hba.block _ (by omega)).trans HT9.out.fst, (hba.block _ (by omega)).trans HT9.out.snd, HT9.out.bel.trans (hba.mono (by omega))⟩
 have HWa := Lib.hid (HW9.out.below hba (by omega))
 have HNa : Hid ((w9.setCell ⟨go, q * 8 + 7, none⟩ (.int .i64 (u + 1))).heap[nb]? = some (.cells #[.slice va xs.length vc, .slice (some ⟨go, 0, none⟩) l.length oc] 32 (0, 0))) := (heap_setCell_other _ _ _ _ (by show nb ≠ go; omega)).trans HN9.out
 have hsa : (w9.setCell ⟨go, q * 8 + 7, none⟩ (.int .i64 (u + 1))).heap.size = w9.heap.size := by simp [World.setCell]
 clear hst hcu
 go_upto_region 8 with fail
 generalize w9.setCell ⟨go, q * 8 + 7, none⟩ (.int .i64 (u + 1)) = wa at HRa HTa HWa HNa hsa ⊢
 clear c0 c1 u7 f7 hba HT9 HW9 HR9 HN9
 obtain ⟨c0, c1⟩ := pair_cells HNa.out
 obtain ⟨r0, r1⟩ := pair_cells HTa.out.snd
 obtain ⟨rf0, rf1⟩ := pair_frozen HTa.out.snd
 have hX2 := two_set2 HTa.out (.slice va xs.length vc) (.slice (some ⟨go, 0, none⟩) l.length oc)
 have HX := Lib.hid hX2.1
 have HBf : Hid (Below w.heap.size w ((wa.setCell ⟨w.heap.size + 1, 0, none⟩ (.slice va xs.length vc)).setCell ⟨w.heap.size + 1, 1, none⟩ (.slice (some ⟨go, 0, none⟩) l.length oc))) := HTa.out.bel.trans (hX2.2.mono (by omega))
 have HOf : Hid (Own ((wa.setCell ⟨w.heap.size + 1, 0, none⟩ (.slice va xs.length vc)).setCell ⟨w.heap.size + 1, 1, none⟩ (.slice (some ⟨go, 0, none⟩) l.length oc)) w1.heap.size mid va xs.length xs) := HWa.out.kept (fun j h1 h2 => pair_other _ _ (by omega))
 have HRf := Lib.hid (own_of_cells (rowO_keep (W' := ((wa.setCell ⟨w.heap.size + 1, 0, none⟩ (.slice va xs.length vc)).setCell ⟨w.heap.size + 1, 1, none⟩ (.slice (some ⟨go, 0, none⟩) l.length oc))) HRa.out (fun k y e hk => pair_other _ _ (by omega))) (Nat.le_refl _))
 have HCf := Lib.hid (caps_of_row HRa.out)
 have hsf : ((wa.setCell ⟨w.heap.size + 1, 0, none⟩ (.slice va xs.length vc)).setCell ⟨w.heap.size + 1, 1, none⟩ (.slice (some ⟨go, 0, none⟩) l.length oc)).heap.size = wa.heap.size := pair_size _ _ _ _
 clear hX2
 go_wp2
 change bodyPost _ _ _ _ _ ((wa.setCell ⟨w.heap.size + 1, 0, none⟩ (.slice va xs.length vc)).setCell ⟨w.heap.size + 1, 1, none⟩ (.slice (some ⟨go, 0, none⟩) l.length oc))
 clear c0 c1 r0 r1 rf0 rf1 HTa HWa HNa HRa
 generalize ((wa.setCell ⟨w.heap.size + 1, 0, none⟩ (.slice va xs.length vc)).setCell ⟨w.heap.size + 1, 1, none⟩ (.slice (some ⟨go, 0, none⟩) l.length oc)) = wf at HX HBf HOf HRf hsf ⊢
 obtain ⟨q0, q1⟩ := pair_cells HX.out
 have htl : (togU l q).length = l.length := togL_len l q
 refine bodyPost_ret (v := .tuple #[.agg #[.slice va xs.length vc, .slice (some ⟨go, 0, none⟩) l.length oc], .nilIface]) (by simp [results, Tryz.results99, go_sem, q0, q1]) rfl (ChP.eqr (show ChP E (0, xs, togU l q) w _ wf from .inr ⟨rfl, va, vc, some ⟨go, 0, none⟩, oc, mid, ?_, HOf.out.more (by omega) (Nat.le_refl _), ?_, by omega, by omega, HCA.out, ?_, HBf.out⟩) HTG.out.symm)
 ·show _ = Ending.returned (.tuple #[.agg #[_, .slice _ (togU l q).length _], _])
  rw [htl]
 ·show OwnOps wf mid wf.heap.size _ (togU l q).length (togU l q)
  rw [htl]
  exact HRf.out
 ·show Caps _ (togU l q).length oc
  rw [htl]
  exact HCf.out
end Go.Proofs.YtjokbaaommicmaaGreatDoor
