/- The walks of impl.OpBytes, spec.OpBytes and what they return. -/
import Derived.Test.YtialoobnjfbboaaDoorOpLawsW
import Derived.Test.YtialoobnjfbboaaDoorTextBase
import Derived.Deep.RegionHeld3
import Derived.RegionTactic
import Derived.Laws.Concat
namespace Go.Proofs.YtialoobnjfbboaaDoor
open Go.RowKit

def varS (n : Int) : ByteArray := strOfNums (varNums n.toNat)
theorem varS_size {n : Int} (h0 : 0 ≤ n) (h1 : n ≤ 1000000) : (varS n).size ≤ 9 := by
  unfold varS
  rw [strOfNums_size]
  exact varNums_len9 n.toNat (by omega)
theorem implVarI (n : Int) (h0 : 0 ≤ n) (h1 : n ≤ 1000000) (w : World) :
    Calls Tryd.prog 14 #[.int .i64 n] w fun e w' => e = .returned (.string (varS n)) ∧ Below w.heap.size w w' := by
  obtain ⟨N, rfl⟩ := Int.eq_ofNat_of_zero_le h0
  have := implVar N (by unfold Fit; omega) w
  unfold varS
  rw [Int.toNat_natCast]
  exact this
theorem l1VarI (n : Int) (h0 : 0 ≤ n) (h1 : n ≤ 1000000) (w : World) :
    Calls Tryd.prog 40 #[.int .i64 n] w fun e w' => e = .returned (.string (varS n)) ∧ Below w.heap.size w w' := by
  obtain ⟨N, rfl⟩ := Int.eq_ofNat_of_zero_le h0
  have := l1Var N (by unfold Fit; omega) w
  unfold varS
  rw [Int.toNat_natCast]
  exact this

def opBytes (dev seq stamp kind : Int) (item : ByteArray) (qty level undos : Int) : ByteArray := ((((((varS dev ++ varS seq) ++ varS stamp) ++ varS kind) ++ textBytes item) ++ varS qty) ++ varS level) ++ varS undos
structure OpIn (dev seq stamp kind : Int) (item : ByteArray) (qty level undos : Int) : Prop where
  dev0 : 0 ≤ dev
  dev1 : dev ≤ 3
  seq0 : 1 ≤ seq
  seq1 : seq ≤ 40
  stamp0 : 1 ≤ stamp
  stamp1 : stamp ≤ 100000
  kind0 : 1 ≤ kind
  kind1 : kind ≤ 5
  qty0 : 0 ≤ qty
  qty1 : qty ≤ 999
  level0 : 0 ≤ level
  level1 : level ≤ 100
  undos0 : 0 ≤ undos
  undos1 : undos ≤ 50
  item8 : item.size ≤ 8
  item1 : itemB item = true
theorem opIn {dev seq stamp kind : Int} {item : ByteArray} {qty level undos : Int} (h : opB dev seq stamp kind item qty level undos = true) : OpIn dev seq stamp kind item qty level undos := by
  unfold opB headB tailB kindB at h
  simp only [Bool.and_eq_true] at h
  obtain ⟨⟨h1, h2, h3, h4, h5⟩, hk, hq, hl⟩ := h
  have k := inB_iff.1 hk
  have i8 : item.size ≤ 8 := by unfold itemB at h4; simp only [Bool.and_eq_true, decide_eq_true_eq] at h4; exact h4.1.2
  have q : 0 ≤ qty ∧ qty ≤ 999 := by
    unfold qB at hq
    split at hq
    · have := inB_iff.1 hq; omega
    · simp only [decide_eq_true_eq] at hq; omega
  have l : 0 ≤ level ∧ level ≤ 100 := by
    unfold lB at hl
    split at hl
    · simp only [Bool.and_eq_true, decide_eq_true_eq] at hl; have := inB_iff.1 hl.1; omega
    · split at hl
      · simp only [Bool.and_eq_true, decide_eq_true_eq] at hl; have := inB_iff.1 hl.1; omega
      · simp only [decide_eq_true_eq] at hl; omega
  have a := inB_iff.1 h1
  have b := inB_iff.1 h2
  have c := inB_iff.1 h3
  have d := inB_iff.1 h5
  exact ⟨a.1, a.2, b.1, b.2, c.1, c.2, k.1, k.2, q.1, q.2, l.1, l.2, d.1, d.2, i8, h4⟩

def C8 (dev seq stamp kind : Int) (item : ByteArray) (qty level undos : Int) (w w' : World) : Prop := w'.cell? ⟨w.heap.size, 0, none⟩ = some (.int .i64 dev) ∧ w'.cell? ⟨w.heap.size, 1, none⟩ = some (.int .i64 seq) ∧ w'.cell? ⟨w.heap.size, 2, none⟩ = some (.int .i64 stamp) ∧ w'.cell? ⟨w.heap.size, 3, none⟩ = some (.int .i64 kind) ∧ w'.cell? ⟨w.heap.size, 4, none⟩ = some (.string item) ∧ w'.cell? ⟨w.heap.size, 5, none⟩ = some (.int .i64 qty) ∧ w'.cell? ⟨w.heap.size, 6, none⟩ = some (.int .i64 level) ∧ w'.cell? ⟨w.heap.size, 7, none⟩ = some (.int .i64 undos) ∧ Below w.heap.size w w'
theorem c8_next {dev seq stamp kind : Int} {item : ByteArray} {qty level undos : Int} {w w1 w2 : World} (h : C8 dev seq stamp kind item qty level undos w w1) (hb : Below w1.heap.size w1 w2) : C8 dev seq stamp kind item qty level undos w w2 := by
  unfold C8 at h ⊢
  obtain ⟨h0, h1, h2, h3, h4, h5, h6, h7, hB⟩ := h
  exact ⟨(hb.cell (block_lt_of_cell h0)).trans h0, (hb.cell (block_lt_of_cell h1)).trans h1, (hb.cell (block_lt_of_cell h2)).trans h2, (hb.cell (block_lt_of_cell h3)).trans h3, (hb.cell (block_lt_of_cell h4)).trans h4, (hb.cell (block_lt_of_cell h5)).trans h5, (hb.cell (block_lt_of_cell h6)).trans h6, (hb.cell (block_lt_of_cell h7)).trans h7, hB.trans (hb.mono hB.size)⟩
theorem c8_of {dev seq stamp kind : Int} {item : ByteArray} {qty level undos : Int} {T : TypeId} {w w1 : World} (h : w1.heap[w.heap.size]? = some (.cells #[.int .i64 dev, .int .i64 seq, .int .i64 stamp, .int .i64 kind, .string item, .int .i64 qty, .int .i64 level, .int .i64 undos] T (0, 0))) (hb : Below w.heap.size w w1) : C8 dev seq stamp kind item qty level undos w w1 := by
  exact ⟨cell_of_row _ _ _ _ _ _ h, cell_of_row _ _ _ _ _ _ h, cell_of_row _ _ _ _ _ _ h, cell_of_row _ _ _ _ _ _ h, cell_of_row _ _ _ _ _ _ h, cell_of_row _ _ _ _ _ _ h, cell_of_row _ _ _ _ _ _ h, cell_of_row _ _ _ _ _ _ h, hb⟩
theorem c8_box (dev seq stamp kind : Int) (item : ByteArray) (qty level undos : Int) {T : TypeId} {w : World} : C8 dev seq stamp kind item qty level undos w (w.alloc (.cells #[.int .i64 dev, .int .i64 seq, .int .i64 stamp, .int .i64 kind, .string item, .int .i64 qty, .int .i64 level, .int .i64 undos] T)) :=
  c8_of (boxAt (Below.refl _ _)) ((Below.refl _ _).alloc (Nat.le_refl _) _)
theorem c8_drew {dev seq stamp kind : Int} {item : ByteArray} {qty level undos : Int} {w w1 : World} (h : C8 dev seq stamp kind item qty level undos w w1) : C8 dev seq stamp kind item qty level undos w w1.drew := c8_next h (Below.refl _ _).drew
set_option maxRecDepth 100000 in
set_option maxHeartbeats 4000000 in
theorem l3Bytes (dev seq stamp kind : Int) (item : ByteArray) (qty level undos : Int) (w : World) (hin : OpIn dev seq stamp kind item qty level undos) : Calls Tryd.prog 26 #[.agg #[.int .i64 dev, .int .i64 seq, .int .i64 stamp, .int .i64 kind, .string item, .int .i64 qty, .int .i64 level, .int .i64 undos]] w fun e w' => e = .returned (.string (opBytes dev seq stamp kind item qty level undos)) ∧ Below w.heap.size w w' := by
  have HI := Lib.hid hin
  clear hin
  have bdev0 : (0 : Int) ≤ dev := by have := HI.out.dev0; omega
  have bdev1 : dev ≤ 1000000 := by have := HI.out.dev1; omega
  have bseq0 : (0 : Int) ≤ seq := by have := HI.out.seq0; omega
  have bseq1 : seq ≤ 1000000 := by have := HI.out.seq1; omega
  have bstamp0 : (0 : Int) ≤ stamp := by have := HI.out.stamp0; omega
  have bstamp1 : stamp ≤ 1000000 := by have := HI.out.stamp1; omega
  have bkind0 : (0 : Int) ≤ kind := by have := HI.out.kind0; omega
  have bkind1 : kind ≤ 1000000 := by have := HI.out.kind1; omega
  have bqty0 : (0 : Int) ≤ qty := by have := HI.out.qty0; omega
  have bqty1 : qty ≤ 1000000 := by have := HI.out.qty1; omega
  have blevel0 : (0 : Int) ≤ level := by have := HI.out.level0; omega
  have blevel1 : level ≤ 1000000 := by have := HI.out.level1; omega
  have bundos0 : (0 : Int) ≤ undos := by have := HI.out.undos0; omega
  have bundos1 : undos ≤ 1000000 := by have := HI.out.undos1; omega
  have i8 : item.size ≤ 4000 := by have := HI.out.item8; omega
  have sdev := varS_size bdev0 bdev1
  have sseq := varS_size bseq0 bseq1
  have sstamp := varS_size bstamp0 bstamp1
  have skind := varS_size bkind0 bkind1
  have sqty := varS_size bqty0 bqty1
  have slevel := varS_size blevel0 blevel1
  have sundos := varS_size bundos0 bundos1
  have sitem : (textBytes item).size ≤ 4100 := by unfold textBytes; rw [ByteArray.size_append]; have := (text_fit i8).2; omega
  have a1 : ∀ W : World, (Op.stringOp .add (varS dev) (varS seq)).run Tryd.prog W = .ok (.string (varS dev ++ varS seq)) W := fun W => run_string_add_sum W _ _ (by (try simp only [ByteArray.size_append]); omega)
  have a2 : ∀ W : World, (Op.stringOp .add (varS dev ++ varS seq) (varS stamp)).run Tryd.prog W = .ok (.string ((varS dev ++ varS seq) ++ varS stamp)) W := fun W => run_string_add_sum W _ _ (by (try simp only [ByteArray.size_append]); omega)
  have a3 : ∀ W : World, (Op.stringOp .add ((varS dev ++ varS seq) ++ varS stamp) (varS kind)).run Tryd.prog W = .ok (.string (((varS dev ++ varS seq) ++ varS stamp) ++ varS kind)) W := fun W => run_string_add_sum W _ _ (by (try simp only [ByteArray.size_append]); omega)
  have a4 : ∀ W : World, (Op.stringOp .add (((varS dev ++ varS seq) ++ varS stamp) ++ varS kind) (textBytes item)).run Tryd.prog W = .ok (.string ((((varS dev ++ varS seq) ++ varS stamp) ++ varS kind) ++ textBytes item)) W := fun W => run_string_add_sum W _ _ (by (try simp only [ByteArray.size_append]); omega)
  have a5 : ∀ W : World, (Op.stringOp .add ((((varS dev ++ varS seq) ++ varS stamp) ++ varS kind) ++ textBytes item) (varS qty)).run Tryd.prog W = .ok (.string (((((varS dev ++ varS seq) ++ varS stamp) ++ varS kind) ++ textBytes item) ++ varS qty)) W := fun W => run_string_add_sum W _ _ (by (try simp only [ByteArray.size_append]); omega)
  have a6 : ∀ W : World, (Op.stringOp .add (((((varS dev ++ varS seq) ++ varS stamp) ++ varS kind) ++ textBytes item) ++ varS qty) (varS level)).run Tryd.prog W = .ok (.string ((((((varS dev ++ varS seq) ++ varS stamp) ++ varS kind) ++ textBytes item) ++ varS qty) ++ varS level)) W := fun W => run_string_add_sum W _ _ (by (try simp only [ByteArray.size_append]); omega)
  have a7 : ∀ W : World, (Op.stringOp .add ((((((varS dev ++ varS seq) ++ varS stamp) ++ varS kind) ++ textBytes item) ++ varS qty) ++ varS level) (varS undos)).run Tryd.prog W = .ok (.string (((((((varS dev ++ varS seq) ++ varS stamp) ++ varS kind) ++ textBytes item) ++ varS qty) ++ varS level) ++ varS undos)) W := fun W => run_string_add_sum W _ _ (by (try simp only [ByteArray.size_append]); omega)
  clear sdev sseq sstamp skind sqty slevel sundos sitem
  have hC := Lib.hid (c8_box (T := 25) (w := w) dev seq stamp kind item qty level undos)
  go_enter Tryd.func26, Tryd.ntmps26
  go_wp2_with fail
  generalize w.alloc (.cells #[.int .i64 dev, .int .i64 seq, .int .i64 stamp, .int .i64 kind, .string item, .int .i64 qty, .int .i64 level, .int .i64 undos] 25) = w0 at hC ⊢
  go_region_held3 (fun w' => w'.cell? ⟨w.heap.size, 0, none⟩ = some (.int .i64 dev) ∧ w'.cell? ⟨w.heap.size, 1, none⟩ = some (.int .i64 seq) ∧ w'.cell? ⟨w.heap.size, 2, none⟩ = some (.int .i64 stamp) ∧ w'.cell? ⟨w.heap.size, 3, none⟩ = some (.int .i64 kind) ∧ w'.cell? ⟨w.heap.size, 4, none⟩ = some (.string item) ∧ w'.cell? ⟨w.heap.size, 5, none⟩ = some (.int .i64 qty) ∧ w'.cell? ⟨w.heap.size, 6, none⟩ = some (.int .i64 level) ∧ w'.cell? ⟨w.heap.size, 7, none⟩ = some (.int .i64 undos) ∧ Below w.heap.size w w') (first | exact c8_drew hC.out | (refine c8_next ?_ hbx; assumption))
    (first | (go_at_call 40; refine (l1VarI _ (by assumption) (by assumption) _).mono ?_; rintro e wz ⟨rfl, hbx⟩) | (go_at_call 41; refine (l1Text _ i8 _).mono ?_; rintro e wz ⟨rfl, hbx⟩))
  have hE : C8 dev seq stamp kind item qty level undos w wz := by assumption
  have HB := Lib.hid hE.2.2.2.2.2.2.2.2
  clear hE hbx
  go_wp2
  go_ret
  exact ⟨rfl, HB.out⟩
theorem implBytesNo (dev seq stamp kind : Int) (item : ByteArray) (qty level undos : Int) (w : World) (ho : opB dev seq stamp kind item qty level undos = false) : Calls Tryd.prog 6 #[.agg #[.int .i64 dev, .int .i64 seq, .int .i64 stamp, .int .i64 kind, .string item, .int .i64 qty, .int .i64 level, .int .i64 undos]] w fun e w' => e = .returned (.string ⟨#[]⟩) ∧ Below w.heap.size w w' := by
  have HO := Lib.hid ho
  clear ho
  go_enter Tryd.func6, Tryd.ntmps6
  go_wp2_with fail
  refine (implOpOk dev seq stamp kind item qty level undos _).mono ?_
  rintro e w1 ⟨rfl, hb1⟩
  rw [HO.out]
  have hB1 := Lib.hid (box_below hb1)
  clear hb1
  go_wp2
  go_ret
  exact ⟨rfl, hB1.out⟩
set_option maxRecDepth 100000 in
set_option maxHeartbeats 4000000 in
theorem implBytes (dev seq stamp kind : Int) (item : ByteArray) (qty level undos : Int) (w : World) (ho : opB dev seq stamp kind item qty level undos = true) : Calls Tryd.prog 6 #[.agg #[.int .i64 dev, .int .i64 seq, .int .i64 stamp, .int .i64 kind, .string item, .int .i64 qty, .int .i64 level, .int .i64 undos]] w fun e w' => e = .returned (.string (opBytes dev seq stamp kind item qty level undos)) ∧ Below w.heap.size w w' := by
  have HI := Lib.hid (opIn ho)
  have HO := Lib.hid ho
  clear ho
  have bdev0 : (0 : Int) ≤ dev := by have := HI.out.dev0; omega
  have bdev1 : dev ≤ 1000000 := by have := HI.out.dev1; omega
  have bseq0 : (0 : Int) ≤ seq := by have := HI.out.seq0; omega
  have bseq1 : seq ≤ 1000000 := by have := HI.out.seq1; omega
  have bstamp0 : (0 : Int) ≤ stamp := by have := HI.out.stamp0; omega
  have bstamp1 : stamp ≤ 1000000 := by have := HI.out.stamp1; omega
  have bkind0 : (0 : Int) ≤ kind := by have := HI.out.kind0; omega
  have bkind1 : kind ≤ 1000000 := by have := HI.out.kind1; omega
  have bqty0 : (0 : Int) ≤ qty := by have := HI.out.qty0; omega
  have bqty1 : qty ≤ 1000000 := by have := HI.out.qty1; omega
  have blevel0 : (0 : Int) ≤ level := by have := HI.out.level0; omega
  have blevel1 : level ≤ 1000000 := by have := HI.out.level1; omega
  have bundos0 : (0 : Int) ≤ undos := by have := HI.out.undos0; omega
  have bundos1 : undos ≤ 1000000 := by have := HI.out.undos1; omega
  have i8 : item.size ≤ 4000 := by have := HI.out.item8; omega
  go_enter Tryd.func6, Tryd.ntmps6
  go_wp2_with fail
  refine (implOpOk dev seq stamp kind item qty level undos _).mono ?_
  rintro e w1 ⟨rfl, hb1⟩
  rw [HO.out]
  have hC := Lib.hid (c8_of (boxAt hb1) (box_below hb1))
  clear hb1
  have sdev := varS_size bdev0 bdev1
  have sseq := varS_size bseq0 bseq1
  have sstamp := varS_size bstamp0 bstamp1
  have skind := varS_size bkind0 bkind1
  have sqty := varS_size bqty0 bqty1
  have slevel := varS_size blevel0 blevel1
  have sundos := varS_size bundos0 bundos1
  have sitem : (textBytes item).size ≤ 4100 := by unfold textBytes; rw [ByteArray.size_append]; have := (text_fit i8).2; omega
  have a1 : ∀ W : World, (Op.stringOp .add (varS dev) (varS seq)).run Tryd.prog W = .ok (.string (varS dev ++ varS seq)) W := fun W => run_string_add_sum W _ _ (by (try simp only [ByteArray.size_append]); omega)
  have a2 : ∀ W : World, (Op.stringOp .add (varS dev ++ varS seq) (varS stamp)).run Tryd.prog W = .ok (.string ((varS dev ++ varS seq) ++ varS stamp)) W := fun W => run_string_add_sum W _ _ (by (try simp only [ByteArray.size_append]); omega)
  have a3 : ∀ W : World, (Op.stringOp .add ((varS dev ++ varS seq) ++ varS stamp) (varS kind)).run Tryd.prog W = .ok (.string (((varS dev ++ varS seq) ++ varS stamp) ++ varS kind)) W := fun W => run_string_add_sum W _ _ (by (try simp only [ByteArray.size_append]); omega)
  clear sdev sseq sstamp skind sqty slevel sundos sitem
  go_wp2_with fail
  go_region_held3 (fun w' => w'.cell? ⟨w.heap.size, 0, none⟩ = some (.int .i64 dev) ∧ w'.cell? ⟨w.heap.size, 1, none⟩ = some (.int .i64 seq) ∧ w'.cell? ⟨w.heap.size, 2, none⟩ = some (.int .i64 stamp) ∧ w'.cell? ⟨w.heap.size, 3, none⟩ = some (.int .i64 kind) ∧ w'.cell? ⟨w.heap.size, 4, none⟩ = some (.string item) ∧ w'.cell? ⟨w.heap.size, 5, none⟩ = some (.int .i64 qty) ∧ w'.cell? ⟨w.heap.size, 6, none⟩ = some (.int .i64 level) ∧ w'.cell? ⟨w.heap.size, 7, none⟩ = some (.int .i64 undos) ∧ Below w.heap.size w w') (first | exact c8_drew hC.out | (refine c8_next ?_ hbx; assumption))
    (first | (go_at_call 14; refine (implVarI _ (by assumption) (by assumption) _).mono ?_; rintro e wz ⟨rfl, hbx⟩) | (go_at_call 15; refine (implText _ i8 _).mono ?_; rintro e wz ⟨rfl, hbx⟩))
  have hE : C8 dev seq stamp kind item qty level undos w wz := by assumption
  have hC2 := Lib.hid hE
  clear hE hbx hC a1 a2 a3
  have sdev := varS_size bdev0 bdev1
  have sseq := varS_size bseq0 bseq1
  have sstamp := varS_size bstamp0 bstamp1
  have skind := varS_size bkind0 bkind1
  have sqty := varS_size bqty0 bqty1
  have slevel := varS_size blevel0 blevel1
  have sundos := varS_size bundos0 bundos1
  have sitem : (textBytes item).size ≤ 4100 := by unfold textBytes; rw [ByteArray.size_append]; have := (text_fit i8).2; omega
  have a4 : ∀ W : World, (Op.stringOp .add (((varS dev ++ varS seq) ++ varS stamp) ++ varS kind) (textBytes item)).run Tryd.prog W = .ok (.string ((((varS dev ++ varS seq) ++ varS stamp) ++ varS kind) ++ textBytes item)) W := fun W => run_string_add_sum W _ _ (by (try simp only [ByteArray.size_append]); omega)
  have a5 : ∀ W : World, (Op.stringOp .add ((((varS dev ++ varS seq) ++ varS stamp) ++ varS kind) ++ textBytes item) (varS qty)).run Tryd.prog W = .ok (.string (((((varS dev ++ varS seq) ++ varS stamp) ++ varS kind) ++ textBytes item) ++ varS qty)) W := fun W => run_string_add_sum W _ _ (by (try simp only [ByteArray.size_append]); omega)
  have a6 : ∀ W : World, (Op.stringOp .add (((((varS dev ++ varS seq) ++ varS stamp) ++ varS kind) ++ textBytes item) ++ varS qty) (varS level)).run Tryd.prog W = .ok (.string ((((((varS dev ++ varS seq) ++ varS stamp) ++ varS kind) ++ textBytes item) ++ varS qty) ++ varS level)) W := fun W => run_string_add_sum W _ _ (by (try simp only [ByteArray.size_append]); omega)
  have a7 : ∀ W : World, (Op.stringOp .add ((((((varS dev ++ varS seq) ++ varS stamp) ++ varS kind) ++ textBytes item) ++ varS qty) ++ varS level) (varS undos)).run Tryd.prog W = .ok (.string (((((((varS dev ++ varS seq) ++ varS stamp) ++ varS kind) ++ textBytes item) ++ varS qty) ++ varS level) ++ varS undos)) W := fun W => run_string_add_sum W _ _ (by (try simp only [ByteArray.size_append]); omega)
  clear sdev sseq sstamp skind sqty slevel sundos sitem
  go_wp2_with fail
  go_region_held3 (fun w' => w'.cell? ⟨w.heap.size, 0, none⟩ = some (.int .i64 dev) ∧ w'.cell? ⟨w.heap.size, 1, none⟩ = some (.int .i64 seq) ∧ w'.cell? ⟨w.heap.size, 2, none⟩ = some (.int .i64 stamp) ∧ w'.cell? ⟨w.heap.size, 3, none⟩ = some (.int .i64 kind) ∧ w'.cell? ⟨w.heap.size, 4, none⟩ = some (.string item) ∧ w'.cell? ⟨w.heap.size, 5, none⟩ = some (.int .i64 qty) ∧ w'.cell? ⟨w.heap.size, 6, none⟩ = some (.int .i64 level) ∧ w'.cell? ⟨w.heap.size, 7, none⟩ = some (.int .i64 undos) ∧ Below w.heap.size w w') (first | exact c8_drew hC2.out | (refine c8_next ?_ hbx; assumption))
    (first | (go_at_call 14; refine (implVarI _ (by assumption) (by assumption) _).mono ?_; rintro e wy ⟨rfl, hbx⟩) | (go_at_call 15; refine (implText _ i8 _).mono ?_; rintro e wy ⟨rfl, hbx⟩))
  have hE : C8 dev seq stamp kind item qty level undos w wy := by assumption
  have HB := Lib.hid hE.2.2.2.2.2.2.2.2
  clear hE hbx
  go_wp2
  go_ret
  exact ⟨rfl, HB.out⟩
theorem specBytesNo (dev seq stamp kind : Int) (item : ByteArray) (qty level undos : Int) (w : World) (hs : item.size ≤ 1048576) (ho : opB dev seq stamp kind item qty level undos = false) : Calls Tryd.prog 11 #[.agg #[.int .i64 dev, .int .i64 seq, .int .i64 stamp, .int .i64 kind, .string item, .int .i64 qty, .int .i64 level, .int .i64 undos]] w fun e w' => e = .returned (.string ⟨#[]⟩) ∧ Below w.heap.size w w' := by
  have HO := Lib.hid ho
  clear ho
  go_enter Tryd.func11, Tryd.ntmps11
  go_wp2_with fail
  refine (specOpOk dev seq stamp kind item qty level undos _ hs).mono ?_
  rintro e w1 ⟨rfl, hb1⟩
  rw [HO.out]
  have hB1 := Lib.hid (box_below hb1)
  clear hb1
  go_wp2
  go_ret
  exact ⟨rfl, hB1.out⟩
set_option maxRecDepth 100000 in
theorem specBytes (dev seq stamp kind : Int) (item : ByteArray) (qty level undos : Int) (w : World) (hs : item.size ≤ 1048576) (ho : opB dev seq stamp kind item qty level undos = true) : Calls Tryd.prog 11 #[.agg #[.int .i64 dev, .int .i64 seq, .int .i64 stamp, .int .i64 kind, .string item, .int .i64 qty, .int .i64 level, .int .i64 undos]] w fun e w' => e = .returned (.string (opBytes dev seq stamp kind item qty level undos)) ∧ Below w.heap.size w w' := by
  have HI := Lib.hid (opIn ho)
  have HO := Lib.hid ho
  clear ho
  go_enter Tryd.func11, Tryd.ntmps11
  go_wp2_with fail
  refine (specOpOk dev seq stamp kind item qty level undos _ hs).mono ?_
  rintro e w1 ⟨rfl, hb1⟩
  rw [HO.out]
  have hx := boxAt hb1
  have hB1 := Lib.hid (box_below hb1)
  clear hb1
  have c0 := cell_of_row _ _ 0 _ _ _ hx
  have c1 := cell_of_row _ _ 1 _ _ _ hx
  have c2 := cell_of_row _ _ 2 _ _ _ hx
  have c3 := cell_of_row _ _ 3 _ _ _ hx
  have c4 := cell_of_row _ _ 4 _ _ _ hx
  have c5 := cell_of_row _ _ 5 _ _ _ hx
  have c6 := cell_of_row _ _ 6 _ _ _ hx
  have c7 := cell_of_row _ _ 7 _ _ _ hx
  simp only [List.getElem?_toArray, List.getElem?_cons_zero, List.getElem?_cons_succ] at c0 c1 c2 c3 c4 c5 c6 c7
  clear hx
  go_wp2_with fail
  refine (l3Bytes dev seq stamp kind item qty level undos _ HI.out).mono ?_
  rintro e w2 ⟨rfl, hb2⟩
  go_wp2
  go_ret
  exact ⟨rfl, hB1.out.trans (hb2.mono hB1.out.size)⟩
end Go.Proofs.YtialoobnjfbboaaDoor
