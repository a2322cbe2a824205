/- What a valid cart is; and the walk of impl.deviceOpsOk. -/
import Derived.Test.YtdbdmfaphdjdpaaToCartW
import Derived.Deep.Cut
namespace Go.Proofs.Ytdbdmfaphdjdpaa
open Go.RowKit

def atOp (l : List OpV) (i : Nat) : OpV := l.getD i OpV.zero
def prevStamp (l : List OpV) (st i : Nat) : Int := if i = 0 then 0 else (atOp l (st + i - 1)).stamp
def fitB (l : List OpV) (dev st i : Nat) : Bool := (atOp l (st + i)).ok && (decide ((atOp l (st + i)).dev = (dev : Int)) && (decide ((atOp l (st + i)).seq = (i : Int) + 1) && decide (prevStamp l st i < (atOp l (st + i)).stamp)))
theorem fit_ok {l : List OpV} {dev st i : Nat} (h : (atOp l (st + i)).ok = false) : fitB l dev st i = false := by unfold fitB; rw [h]; rfl
theorem fit_dev {l : List OpV} {dev st i : Nat} (h : ¬ (atOp l (st + i)).dev = (dev : Int)) : fitB l dev st i = false := by unfold fitB; rw [decide_eq_false h]; simp
theorem fit_seq {l : List OpV} {dev st i : Nat} (h : ¬ (atOp l (st + i)).seq = (i : Int) + 1) : fitB l dev st i = false := by unfold fitB; rw [decide_eq_false h]; simp
theorem fit_stamp {l : List OpV} {dev st i : Nat} (h : ¬ prevStamp l st i < (atOp l (st + i)).stamp) : fitB l dev st i = false := by unfold fitB; rw [decide_eq_false h]; simp
theorem fit_yes {l : List OpV} {dev st i : Nat} (h1 : (atOp l (st + i)).ok = true) (h2 : (atOp l (st + i)).dev = (dev : Int)) (h3 : (atOp l (st + i)).seq = (i : Int) + 1) (h4 : prevStamp l st i < (atOp l (st + i)).stamp) : fitB l dev st i = true := by
  unfold fitB
  rw [h1, decide_eq_true h2, decide_eq_true h3, decide_eq_true h4]
  rfl
/-- The first c operations from place st on are those of a device, in order. -/
def runB (l : List OpV) (dev st c : Nat) : Bool := (List.range c).all (fitB l dev st)
theorem run_step {l : List OpV} {dev st k : Nat} (h : runB l dev st k = true) (hk : fitB l dev st k = true) : runB l dev st (k + 1) = true := by
  unfold runB at *
  rw [List.range_succ, List.all_append, h]
  simp [hk]
theorem run_stop {l : List OpV} {dev st k c : Nat} (hk : k < c) (h : fitB l dev st k = false) : runB l dev st c = false := by
  unfold runB
  rw [List.all_eq_false]
  exact ⟨k, by simpa using hk, by simp [h]⟩
theorem prev_step (l : List OpV) (st k : Nat) : prevStamp l st (k + 1) = (atOp l (st + k)).stamp := by
  unfold prevStamp
  rw [if_neg (by omega)]
  rfl

set_option maxRecDepth 100000 in
set_option maxHeartbeats 2000000 in
theorem deviceOk (w : World) (B : Nat) (a : Option Addr) (n cap dev : Nat) (l : List OpV) (h : Ops w B a n l) (hB : B ≤ w.heap.size) (hn : n ≤ 1048576) :
    Calls Try.prog 70 #[.slice a n cap, .int .i64 (dev : Int)] w fun e w' => e = .returned (.bool (runB l dev 0 n)) ∧ Below w.heap.size w w' := by
  have H := Lib.hid h
  clear h
  go_enter Try.func70, Try.ntmps70
  go_wp2
  go_loopw [5, 10] (fun s i wr => ∃ k : Nat, k ≤ n ∧ i = .int .i64 k ∧ s = .int .i64 (prevStamp l 0 k) ∧ Hid (runB l dev 0 k = true) ∧ Hid (Below w.heap.size w wr)) (fun _ i _ => n - (intOf i).toNat)
  case atStart => exact ⟨0, Nat.zero_le _, rfl, rfl, rfl, Below.refl _ _⟩
  case round =>
    obtain ⟨k, hk, rfl, rfl, HK, HB⟩ := hrel
    by_cases hlt : k < n
    rotate_left
    · obtain rfl : k = n := by omega
      go_wp2
      go_ret
      exact ⟨by rw [HK.out]; rfl, HB.out⟩
    obtain ⟨b, off, rfl, hb, ho⟩ := H.out.2 k hlt
    obtain ⟨c0, c1, c2, c3, c4, c5, c6, c7⟩ := ho.kept (HB.out.block b (by omega))
    clear ho
    have HA : Hid (l.getD k OpV.zero = atOp l (0 + k)) := by show _ = _; rw [Nat.zero_add]; rfl
    have HPs := Lib.hid (prev_step l 0 k)
    have HY := Lib.hid (@fit_yes l dev 0 k)
    have H1 := Lib.hid (fun h => run_stop (c := n) hlt (@fit_ok l dev 0 k h))
    have H2 := Lib.hid (fun h => run_stop (c := n) hlt (@fit_dev l dev 0 k h))
    have H3 := Lib.hid (fun h => run_stop (c := n) hlt (@fit_seq l dev 0 k h))
    have H4 := Lib.hid (fun h => run_stop (c := n) hlt (@fit_stamp l dev 0 k h))
    have HN := Lib.hid (fun h => run_step (dev := dev) HK.out h)
    rw [HA.out] at c0 c1 c2 c3 c4 c5 c6 c7
    clear HA
    generalize atOp l (0 + k) = x at HPs HY H1 H2 H3 H4 c0 c1 c2 c3 c4 c5 c6 c7
    generalize prevStamp l 0 k = ps at HY H4 ⊢
    go_upto_region 5 with fail
    have HX := Lib.hid (boxAt (Below.refl _ (wr.alloc (.cells #[.int .i64 x.dev, .int .i64 x.seq, .int .i64 x.stamp, .int .i64 x.kind, .string x.item, .int .i64 x.qty, .int .i64 x.level, .int .i64 x.undos] 77))))
    have HB1 := Lib.hid (HB.out.alloc HB.out.size (.cells #[.int .i64 x.dev, .int .i64 x.seq, .int .i64 x.stamp, .int .i64 x.kind, .string x.item, .int .i64 x.qty, .int .i64 x.level, .int .i64 x.undos] 77))
    generalize wr.alloc (.cells #[.int .i64 x.dev, .int .i64 x.seq, .int .i64 x.stamp, .int .i64 x.kind, .string x.item, .int .i64 x.qty, .int .i64 x.level, .int .i64 x.undos] 77) = w1 at HX HB1 ⊢
    generalize wr.heap.size = bo at HX ⊢
    clear c0 c1 c2 c3 c4 c5 c6 c7 HB
    have ⟨d0, d1, d2, d3, d4, d5, d6, d7⟩ : OpAt w1 bo 0 x := ⟨cell_of_row _ _ _ _ _ _ HX.out, cell_of_row _ _ _ _ _ _ HX.out, cell_of_row _ _ _ _ _ _ HX.out, cell_of_row _ _ _ _ _ _ HX.out, cell_of_row _ _ _ _ _ _ HX.out, cell_of_row _ _ _ _ _ _ HX.out, cell_of_row _ _ _ _ _ _ HX.out, cell_of_row _ _ _ _ _ _ HX.out⟩
    simp only [Nat.zero_add] at d0 d1 d2 d3 d4 d5 d6 d7
    go_wp2_with fail
    refine (implOpOk x.dev x.seq x.stamp x.kind x.item x.qty x.level x.undos _).mono ?_
    rintro e w2 ⟨rfl, hb2⟩
    have HX2 := Lib.hid ((hb2.block _ (Array.getElem?_eq_some_iff.1 HX.out).1).trans HX.out)
    have HB2 := Lib.hid (HB1.out.trans (hb2.mono HB1.out.size))
    clear hb2 HX HB1 d0 d1 d2 d3 d4 d5 d6 d7
    have ⟨d0, d1, d2, d3, d4, d5, d6, d7⟩ : OpAt w2 bo 0 x := ⟨cell_of_row _ _ _ _ _ _ HX2.out, cell_of_row _ _ _ _ _ _ HX2.out, cell_of_row _ _ _ _ _ _ HX2.out, cell_of_row _ _ _ _ _ _ HX2.out, cell_of_row _ _ _ _ _ _ HX2.out, cell_of_row _ _ _ _ _ _ HX2.out, cell_of_row _ _ _ _ _ _ HX2.out, cell_of_row _ _ _ _ _ _ HX2.out⟩
    simp only [Nat.zero_add] at d0 d1 d2 d3 d4 d5 d6 d7
    rcases hok : opB x.dev x.seq x.stamp x.kind x.item x.qty x.level x.undos with _ | _
    · have HF := Lib.hid (H1.out hok)
      clear hok
      go_wp2
      go_ret
      exact ⟨by rw [HF.out]; rfl, HB2.out⟩
    by_cases e1 : x.dev = (dev : Int)
    rotate_left
    · have HF := Lib.hid (H2.out e1)
      have b1 : (x.dev != (dev : Int)) = true := by rw [bne_iff_ne]; exact e1
      clear hok e1
      go_wp2
      go_ret
      exact ⟨by rw [HF.out]; rfl, HB2.out⟩
    have b1 : (x.dev != (dev : Int)) = false := by rw [e1]; exact bne_self_eq_false _
    by_cases e2 : x.seq = (k : Int) + 1
    rotate_left
    · have HF := Lib.hid (H3.out e2)
      have b2 : (x.seq != (k : Int) + 1) = true := by rw [bne_iff_ne]; exact e2
      clear hok e1 e2
      go_wp2
      go_ret
      exact ⟨by rw [HF.out]; rfl, HB2.out⟩
    have b2 : (x.seq != (k : Int) + 1) = false := by rw [e2]; exact bne_self_eq_false _
    by_cases e3 : ps < x.stamp
    rotate_left
    · have HF := Lib.hid (H4.out (by first | exact e3 | exact Int.not_lt.1 e3))
      have b3 : decide (x.stamp ≤ ps) = true := decide_eq_true (by omega)
      clear hok e1 e2 e3
      go_wp2
      go_ret
      exact ⟨by rw [HF.out]; rfl, HB2.out⟩
    have b3 : decide (x.stamp ≤ ps) = false := decide_eq_false (by omega)
    have HF := Lib.hid (HN.out (HY.out hok e1 e2 e3))
    clear hok e1 e2 e3
    go_wp2
    go_roundw
    case rel => exact ⟨k + 1, by omega, by go_num, by rw [HPs.out], HF, HB2⟩
    case measure => simp [intOf]; omega
end Go.Proofs.Ytdbdmfaphdjdpaa
