/- The walks of spec.VecMax and impl.VecMax. -/
import Derived.Test.YtmceofdknphgkaaOwnW
import Derived.Test.YtmceofdknphgkaaRaiseW
namespace Go.Proofs.Ytmceofdknphgkaa
open Go.RowKit

set_option maxRecDepth 100000 in
set_option maxHeartbeats 1000000 in
theorem specMaxYes (w : World) (B B' : Nat) (a a' : Option Addr) (cap cap' : Nat) (xs ys : List Int) (h : Ints w B a 4 xs) (h' : Ints w B' a' 4 ys) (hB : B ≤ w.heap.size) (hB' : B' ≤ w.heap.size) (hk : vecOk xs = true) (hk' : vecOk ys = true) :
    Calls Try.prog 138 #[.slice a 4 cap, .slice a' 4 cap'] w (OwnPost (zipI max xs ys) w) := by
  obtain ⟨i0, hi, hz0, hz1, hz2⟩ := info_parts Try.infoI64
  have hbA : Below w.heap.size w (w.alloc (.cells #[] 2)) := (Below.refl _ w).alloc (Nat.le_refl _) _
  have H := Lib.hid h
  have H' := Lib.hid h'
  have HA := Lib.hid (h.below hbA hB)
  have HA' := Lib.hid (h'.below hbA hB')
  have HK := Lib.hid hk
  have HK' := Lib.hid hk'
  have hown := Lib.hid (World.ownsRow_made (e := 2) (size := 1) w #[] 0 (Nat.le_refl w.heap.size) (by unfold maxLen; omega) rfl)
  have HbA := Lib.hid hbA
  clear h h' hk hk' hbA
  go_enter Try.func138, Try.ntmps138
  go_wp2_with fail
  refine (specVecOk _ B a 4 cap xs (by exact HA.out) (by omega)).mono ?_
  rintro e w1 ⟨rfl, rfl⟩
  rw [HK.out]
  go_wp2_with fail
  refine (specVecOk _ B' a' 4 cap' ys (by exact HA'.out) (by omega)).mono ?_
  rintro e w1 ⟨rfl, rfl⟩
  rw [HK'.out]
  go_wp2
  go_loopw [5, 6] (fun v i wr => ∃ k : Nat, k ≤ 4 ∧ i = .int .i64 k ∧ Hid (wr.ownsRow w.heap.size 2 1 v k (((zipI max xs ys).take k).map (Value.int .i64))) ∧ Below w.heap.size w wr) (fun _ i _ => 4 - (intOf i).toNat)
  case atStart => exact ⟨0, by omega, rfl, hown.out, HbA.out⟩
  case round =>
    obtain ⟨k, hk, rfl, HO, hbr⟩ := hrel
    have hs := hbr.size
    by_cases hlt : k < 4
    · obtain ⟨b, off, rfl, hb, c1⟩ := H.out.2 k hlt
      obtain ⟨b', off', rfl, hb', c2⟩ := H'.out.2 k hlt
      have c1' := (hbr.cell (p := ⟨b, off + k, none⟩) (by show b < w.heap.size; omega)).trans c1
      have c2' := (hbr.cell (p := ⟨b', off' + k, none⟩) (by show b' < w.heap.size; omega)).trans c2
      obtain ⟨x, hx⟩ : ∃ x, x = xs.getD k 0 := ⟨_, rfl⟩
      obtain ⟨y, hy⟩ : ∃ y, y = ys.getD k 0 := ⟨_, rfl⟩
      rw [← hx] at c1'
      rw [← hy] at c2'
      have HZ : Hid ((zipI max xs ys).take (k + 1) = (zipI max xs ys).take k ++ [max x y]) := by rw [hx, hy]; exact zipI_take _ _ _ _ (by rw [H.out.1]; exact hlt) (by rw [H'.out.1]; exact hlt)
      have hki : (k : Int) < 4 := by omega
      have hk0 : (0 : Int) ≤ (k : Int) := by omega
      clear hx hy c1 c2
      go_wp2_with fail
      have hne1 : ∀ v : Value, wr.ownsRow w.heap.size 2 1 v k (((zipI max xs ys).take k).map (Value.int .i64)) → some b ≠ v.ownBlock := fun v hv e => by have := (hv.lt b e.symm).1; omega
      have hne2 : ∀ v : Value, wr.ownsRow w.heap.size 2 1 v k (((zipI max xs ys).take k).map (Value.int .i64)) → some b' ≠ v.ownBlock := fun v hv e => by have := (hv.lt b' e.symm).1; omega
      have HN1 := Lib.hid (hne1 _ HO.out)
      have HN2 := Lib.hid (hne2 _ HO.out)
      have hbw : b < wr.heap.size := by omega
      have hbw' : b' < wr.heap.size := by omega
      clear hne1 hne2
      go_region_held3 (fun w' => w'.cell? ⟨b, off + k, none⟩ = some (.int .i64 x) ∧ w'.cell? ⟨b', off' + k, none⟩ = some (.int .i64 y)) (first | go_keep | exact ⟨keep_cell hgrow hbw HN1.out c1', keep_cell hgrow hbw' HN2.out c2'⟩)
        ((refine step_append_lies _ (by rfl) _ _ _ (by rfl) w.heap.size 2 i0 _ 1 8 Try.underlying24 hi hz0 hz1 hz2 rfl (by omega) _ k _ (by rfl) ((HO.out.alloc _).drew) ⟨wr.heap.size, 0, none⟩ 1 1 [.int .i64 (max x y)] (by rfl) (by rfl) (World.news_of_block (cs := #[.int .i64 (max x y)]) (t := 2) (fr := (0, 0)) (heap_alloc_new wr _)) (by simp [Value.oneCell']) (by omega) (by unfold maxLen; omega) (by omega) (by simp; omega) (wr.heap.size + 1) (by simp) ?_; intro gg cap1 w1 hown1 hgrow hat hlt1))
      have HO1 := Lib.hid (p := w1.ownsRow w.heap.size 2 1 (.slice (some ⟨gg, 0, none⟩) (k + 1) cap1) (k + 1) (((zipI max xs ys).take (k + 1)).map (Value.int .i64))) (by rw [HZ.out]; simpa using hown1)
      have hb1 := (hbr.alloc hs (.cells #[.int .i64 (max x y)] 2)).drew.grown hgrow (by simp; omega) (fun j hj => (HO.out.lt j hj).1)
      clear hown1 hgrow hat
      go_wp2
      go_roundw
      case rel => exact ⟨k + 1, by omega, by go_num, HO1, hb1⟩
      case measure => simp [intOf]; omega
    · obtain rfl : k = 4 := by omega
      have hzl : (zipI max xs ys).length = 4 := by unfold zipI; rw [List.length_zipWith, H.out.1, H'.out.1]; rfl
      have ho := HO.out
      rw [List.take_of_length_le (by omega)] at ho
      obtain ⟨g, c, hv, _, _⟩ := ho.form (by omega)
      subst hv
      have HP := Lib.hid (own_of_row (hi := wr.heap.size) ho (Nat.le_refl _))
      have HL := Lib.hid hzl
      clear ho hzl
      go_wp2
      go_ret
      exact ⟨some ⟨g, 0, none⟩, c, by rw [HL.out]; rfl, by rw [HL.out]; exact HP.out, hbr⟩

set_option maxRecDepth 100000 in
theorem specMaxNo (w : World) (B B' : Nat) (a a' : Option Addr) (len cap len' cap' : Nat) (xs ys : List Int) (h : Ints w B a len xs) (h' : Ints w B' a' len' ys) (hB : B ≤ w.heap.size) (hB' : B' ≤ w.heap.size) (hl : len ≤ 1048576) (hl' : len' ≤ 1048576)
    (ok ok' : Bool) (hk : vecOk xs = ok) (hk' : vecOk ys = ok') (hno : (ok && ok') = false) :
    Calls Try.prog 138 #[.slice a len cap, .slice a' len' cap'] w (OwnPost [] w) := by
  have hbA : Below w.heap.size w (w.alloc (.cells #[] 2)) := (Below.refl _ w).alloc (Nat.le_refl _) _
  have HA := Lib.hid (h.below hbA hB)
  have HA' := Lib.hid (h'.below hbA hB')
  have HK := Lib.hid hk
  have HK' := Lib.hid hk'
  have HbA := Lib.hid hbA
  clear h h' hk hk' hbA
  cases ok
  · clear hno
    go_enter Try.func138, Try.ntmps138
    go_wp2_with fail
    refine (specVecOk _ B a len cap xs (by exact HA.out) hl).mono ?_
    rintro e w1 ⟨rfl, rfl⟩
    rw [HK.out]
    go_wp2
    go_ret
    exact ⟨some ⟨w.heap.size, 0, none⟩, 0, rfl, ⟨rfl, fun hn => absurd hn (by simp)⟩, HbA.out⟩
  · cases ok'
    · clear hno
      go_enter Try.func138, Try.ntmps138
      go_wp2_with fail
      refine (specVecOk _ B a len cap xs (by exact HA.out) hl).mono ?_
      rintro e w1 ⟨rfl, rfl⟩
      rw [HK.out]
      go_wp2_with fail
      refine (specVecOk _ B' a' len' cap' ys (by exact HA'.out) hl').mono ?_
      rintro e w1 ⟨rfl, rfl⟩
      rw [HK'.out]
      go_wp2
      go_ret
      exact ⟨some ⟨w.heap.size, 0, none⟩, 0, rfl, ⟨rfl, fun hn => absurd hn (by simp)⟩, HbA.out⟩
    · cases hno

theorem specMax (w : World) (B B' : Nat) (a a' : Option Addr) (len cap len' cap' : Nat) (xs ys : List Int) (h : Ints w B a len xs) (h' : Ints w B' a' len' ys) (hB : B ≤ w.heap.size) (hB' : B' ≤ w.heap.size) (hl : len ≤ 1048576) (hl' : len' ≤ 1048576) :
    Calls Try.prog 138 #[.slice a len cap, .slice a' len' cap'] w (OwnPost (vecZip max xs ys) w) := by
  cases hk : vecOk xs && vecOk ys
  · rw [vecZip_no hk]
    exact specMaxNo w B B' a a' len cap len' cap' xs ys h h' hB hB' hl hl' _ _ rfl rfl hk
  · rw [vecZip_yes hk]
    rw [Bool.and_eq_true] at hk
    obtain ⟨x0, x1, x2, x3, hx⟩ := four hk.1
    obtain ⟨y0, y1, y2, y3, hy⟩ := four hk.2
    obtain rfl : len = 4 := h.1.symm.trans (by rw [hx]; rfl)
    obtain rfl : len' = 4 := h'.1.symm.trans (by rw [hy]; rfl)
    exact specMaxYes w B B' a a' cap cap' xs ys h h' hB hB' hk.1 hk.2

set_option maxRecDepth 100000 in
set_option maxHeartbeats 1000000 in
theorem implMaxYes (w : World) (B : Nat) (a a' : Option Addr) (cap cap' : Nat) (x0 x1 x2 x3 y0 y1 y2 y3 : Int) (h : Ints w B a 4 [x0, x1, x2, x3]) (h' : Ints w B a' 4 [y0, y1, y2, y3]) (hB : B ≤ w.heap.size)
    (hok : vecOk [x0, x1, x2, x3] = true) (hok' : vecOk [y0, y1, y2, y3] = true) :
    Calls Try.prog 143 #[.slice a 4 cap, .slice a' 4 cap'] w (OwnPost (zipI max [x0, x1, x2, x3] [y0, y1, y2, y3]) w) := by
  go_enter Try.func143, Try.ntmps143
  go_wp2_with fail
  refine (vectorsOfYes w B a a' cap cap' x0 x1 x2 x3 y0 y1 y2 y3 h h' hB hok hok').mono ?_
  rintro e w1 ⟨rfl, hb1⟩
  have hs1 := hb1.size
  clear h h' hok hok'
  go_wp2_with fail
  refine (implRaise _ w1.heap.size (w1.heap.size + 1) x0 x1 x2 x3 y0 y1 y2 y3 (heap_alloc2_old _ _ _) (heap_alloc2_new _ _ _) (by omega)).mono ?_
  rintro e w3 ⟨rfl, hO, hx⟩
  have hb3 : Below w1.heap.size w1 w3 := (((Below.refl _ w1).alloc (Nat.le_refl _) _).alloc (by simp) _).trans (hO.below (Nat.le_refl _))
  have hbr : Below w.heap.size w w3 := hb1.trans (hb3.mono hs1)
  obtain ⟨⟨d0, d1, d2, d3⟩, _⟩ := cells4 hx
  have hs := hbr.size
  have hs3 := hb3.size
  clear hx hO hb1
  go_wp2_with fail
  refine (vlist w3 (max x0 y0) (max x1 y1) (max x2 y2) (max x3 y3)).mono ?_
  rintro e w2 ⟨ao, co, rfl, ho, hb2⟩
  clear d0 d1 d2 d3
  go_wp2
  go_ret
  exact ⟨ao, co, rfl, ho.more hs (Nat.le_refl _), hbr.trans (hb2.mono hs)⟩


set_option maxRecDepth 100000 in
theorem implMaxNo (w : World) (B : Nat) (a a' : Option Addr) (len cap len' cap' : Nat) (xs ys : List Int) (h : Ints w B a len xs) (h' : Ints w B a' len' ys) (hB : B ≤ w.heap.size) (hl : len ≤ 1048576) (hl' : len' ≤ 1048576)
    (hno : (vecOk xs && vecOk ys) = false) :
    Calls Try.prog 143 #[.slice a len cap, .slice a' len' cap'] w (OwnPost [] w) := by
  go_enter Try.func143, Try.ntmps143
  go_wp2_with fail
  refine (vectorsOfNo w B a a' len cap len' cap' xs ys h h' hB hl hl' _ _ rfl rfl hno).mono ?_
  rintro e w1 ⟨rfl, hb1⟩
  have hs1 := hb1.size
  clear h h' hno
  go_wp2
  go_ret
  exact ⟨none, 0, rfl, ⟨rfl, fun hn => absurd hn (by simp)⟩, (hb1.alloc hs1 _).alloc (by simp; omega) _⟩

theorem implMax (w : World) (B : Nat) (a a' : Option Addr) (len cap len' cap' : Nat) (xs ys : List Int) (h : Ints w B a len xs) (h' : Ints w B a' len' ys) (hB : B ≤ w.heap.size) (hl : len ≤ 1048576) (hl' : len' ≤ 1048576) :
    Calls Try.prog 143 #[.slice a len cap, .slice a' len' cap'] w (OwnPost (vecZip max xs ys) w) := by
  cases hk : vecOk xs && vecOk ys
  · rw [vecZip_no hk]
    exact implMaxNo w B a a' len cap len' cap' xs ys h h' hB hl hl' hk
  · rw [vecZip_yes hk]
    rw [Bool.and_eq_true] at hk
    obtain ⟨x0, x1, x2, x3, rfl⟩ := four hk.1
    obtain ⟨y0, y1, y2, y3, rfl⟩ := four hk.2
    obtain rfl : len = 4 := h.1.symm
    obtain rfl : len' = 4 := h'.1.symm
    exact implMaxYes w B a a' cap cap' x0 x1 x2 x3 y0 y1 y2 y3 h h' hB hk.1 hk.2
end Go.Proofs.Ytmceofdknphgkaa
