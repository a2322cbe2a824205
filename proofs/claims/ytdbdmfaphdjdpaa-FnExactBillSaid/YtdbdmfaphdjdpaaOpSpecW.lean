/- The walk of spec.OpOk. -/
import Derived.Test.YtdbdmfaphdjdpaaOpOkW
namespace Go.Proofs.Ytdbdmfaphdjdpaa
open Go.RowKit

set_option maxRecDepth 100000 in
set_option maxHeartbeats 2000000 in
theorem specOpOk (dev seq stamp kind : Int) (item : ByteArray) (qty level undos : Int) (w : World) (hs : item.size ≤ 1048576) :
    Calls Try.prog 79 #[.agg #[.int .i64 dev, .int .i64 seq, .int .i64 stamp, .int .i64 kind, .string item, .int .i64 qty, .int .i64 level, .int .i64 undos]] w (fun e w' => e = .returned (.bool (opB dev seq stamp kind item qty level undos)) ∧ Below w.heap.size w w') := by
  rcases h0 : inB dev 0 3 with _ | _
  · have HO := Lib.hid (opB_head (kind := kind) (qty := qty) (level := level) (head_no (dev := dev) (seq := seq) (stamp := stamp) (item := item) (undos := undos) (.inl h0)))
    have H0 := Lib.hid h0
    clear h0
    go_enter Try.func79, Try.ntmps79
    go_wp2_with fail
    refine (l3Dev _ _).mono ?_
    rintro e w' ⟨rfl, rfl⟩
    rw [H0.out]
    go_wp2
    go_ret
    exact ⟨by rw [HO.out]; rfl, (Below.refl _ _).alloc (Nat.le_refl _) _⟩
  have H0 := Lib.hid h0
  rcases h1 : inB seq 1 40 with _ | _
  · have HO := Lib.hid (opB_head (kind := kind) (qty := qty) (level := level) (head_no (dev := dev) (seq := seq) (stamp := stamp) (item := item) (undos := undos) (.inr (.inl h1))))
    have H1 := Lib.hid h1
    clear h0 h1
    go_enter Try.func79, Try.ntmps79
    go_wp2_with fail
    refine (l3Dev _ _).mono ?_
    rintro e w' ⟨rfl, rfl⟩
    rw [H0.out]
    go_wp2_with fail
    refine (l1In _ _ _ _).mono ?_
    rintro e w' ⟨rfl, rfl⟩
    rw [H1.out]
    go_wp2
    go_ret
    exact ⟨by rw [HO.out]; rfl, (Below.refl _ _).alloc (Nat.le_refl _) _⟩
  have H1 := Lib.hid h1
  rcases h2 : inB stamp 1 100000 with _ | _
  · have HO := Lib.hid (opB_head (kind := kind) (qty := qty) (level := level) (head_no (dev := dev) (seq := seq) (stamp := stamp) (item := item) (undos := undos) (.inr (.inr (.inl h2)))))
    have H2 := Lib.hid h2
    clear h0 h1 h2
    go_enter Try.func79, Try.ntmps79
    go_wp2_with fail
    refine (l3Dev _ _).mono ?_
    rintro e w' ⟨rfl, rfl⟩
    rw [H0.out]
    go_wp2_with fail
    refine (l1In _ _ _ _).mono ?_
    rintro e w' ⟨rfl, rfl⟩
    rw [H1.out]
    go_wp2_with fail
    refine (l1In _ _ _ _).mono ?_
    rintro e w' ⟨rfl, rfl⟩
    rw [H2.out]
    go_wp2
    go_ret
    exact ⟨by rw [HO.out]; rfl, (Below.refl _ _).alloc (Nat.le_refl _) _⟩
  have H2 := Lib.hid h2
  rcases h3 : itemB item with _ | _
  · have HO := Lib.hid (opB_head (kind := kind) (qty := qty) (level := level) (head_no (dev := dev) (seq := seq) (stamp := stamp) (item := item) (undos := undos) (.inr (.inr (.inr (.inl h3))))))
    have H3 := Lib.hid h3
    clear h0 h1 h2 h3
    go_enter Try.func79, Try.ntmps79
    go_wp2_with fail
    refine (l3Dev _ _).mono ?_
    rintro e w' ⟨rfl, rfl⟩
    rw [H0.out]
    go_wp2_with fail
    refine (l1In _ _ _ _).mono ?_
    rintro e w' ⟨rfl, rfl⟩
    rw [H1.out]
    go_wp2_with fail
    refine (l1In _ _ _ _).mono ?_
    rintro e w' ⟨rfl, rfl⟩
    rw [H2.out]
    go_wp2_with fail
    refine (l3Item _ hs _).mono ?_
    rintro e w' ⟨rfl, rfl⟩
    rw [H3.out]
    go_wp2
    go_ret
    exact ⟨by rw [HO.out]; rfl, (Below.refl _ _).alloc (Nat.le_refl _) _⟩
  have H3 := Lib.hid h3
  rcases h4 : inB undos 0 50 with _ | _
  · have HO := Lib.hid (opB_head (kind := kind) (qty := qty) (level := level) (head_no (dev := dev) (seq := seq) (stamp := stamp) (item := item) (undos := undos) (.inr (.inr (.inr (.inr (h4)))))))
    have H4 := Lib.hid h4
    clear h0 h1 h2 h3 h4
    go_enter Try.func79, Try.ntmps79
    go_wp2_with fail
    refine (l3Dev _ _).mono ?_
    rintro e w' ⟨rfl, rfl⟩
    rw [H0.out]
    go_wp2_with fail
    refine (l1In _ _ _ _).mono ?_
    rintro e w' ⟨rfl, rfl⟩
    rw [H1.out]
    go_wp2_with fail
    refine (l1In _ _ _ _).mono ?_
    rintro e w' ⟨rfl, rfl⟩
    rw [H2.out]
    go_wp2_with fail
    refine (l3Item _ hs _).mono ?_
    rintro e w' ⟨rfl, rfl⟩
    rw [H3.out]
    go_wp2_with fail
    refine (l1In _ _ _ _).mono ?_
    rintro e w' ⟨rfl, rfl⟩
    rw [H4.out]
    go_wp2
    go_ret
    exact ⟨by rw [HO.out]; rfl, (Below.refl _ _).alloc (Nat.le_refl _) _⟩
  have H4 := Lib.hid h4
  have HH := Lib.hid (head_yes h0 h1 h2 h3 h4)
  clear h0 h1 h2 h3 h4
  rcases hki : kindB kind with _ | _
  · have HO := Lib.hid (opB_kind (dev := dev) (seq := seq) (stamp := stamp) (item := item) (qty := qty) (level := level) (undos := undos) hki)
    have hn : ¬ (1 ≤ kind ∧ kind ≤ 5) := fun h' => by have := inB_iff.2 h'; unfold kindB at hki; rw [this] at hki; cases hki
    have n1 : (kind == 1) = false := by rw [beq_eq_false_iff_ne]; omega
    have n2 : (kind == 2) = false := by rw [beq_eq_false_iff_ne]; omega
    have n3 : (kind == 3) = false := by rw [beq_eq_false_iff_ne]; omega
    have n4 : (kind == 4) = false := by rw [beq_eq_false_iff_ne]; omega
    have n5 : (kind == 5) = false := by rw [beq_eq_false_iff_ne]; omega
    clear hki hn
    go_enter Try.func79, Try.ntmps79
    go_wp2_with fail
    refine (l3Dev _ _).mono ?_
    rintro e w' ⟨rfl, rfl⟩
    rw [H0.out]
    go_wp2_with fail
    refine (l1In _ _ _ _).mono ?_
    rintro e w' ⟨rfl, rfl⟩
    rw [H1.out]
    go_wp2_with fail
    refine (l1In _ _ _ _).mono ?_
    rintro e w' ⟨rfl, rfl⟩
    rw [H2.out]
    go_wp2_with fail
    refine (l3Item _ hs _).mono ?_
    rintro e w' ⟨rfl, rfl⟩
    rw [H3.out]
    go_wp2_with fail
    refine (l1In _ _ _ _).mono ?_
    rintro e w' ⟨rfl, rfl⟩
    rw [H4.out]
    go_wp2
    go_ret
    exact ⟨by rw [HO.out]; rfl, (Below.refl _ _).alloc (Nat.le_refl _) _⟩
  rcases kind_cases hki with rfl | rfl | rfl | rfl | rfl
  · rcases hq : inB qty 1 999 with _ | _
    · have HO := Lib.hid (opB_qty (dev := dev) (seq := seq) (stamp := stamp) (item := item) (level := level) (undos := undos) (kind := 1) (by exact hq))
      have HQ := Lib.hid hq
      clear hq hki
      go_enter Try.func79, Try.ntmps79
      go_wp2_with fail
      refine (l3Dev _ _).mono ?_
      rintro e w' ⟨rfl, rfl⟩
      rw [H0.out]
      go_wp2_with fail
      refine (l1In _ _ _ _).mono ?_
      rintro e w' ⟨rfl, rfl⟩
      rw [H1.out]
      go_wp2_with fail
      refine (l1In _ _ _ _).mono ?_
      rintro e w' ⟨rfl, rfl⟩
      rw [H2.out]
      go_wp2_with fail
      refine (l3Item _ hs _).mono ?_
      rintro e w' ⟨rfl, rfl⟩
      rw [H3.out]
      go_wp2_with fail
      refine (l1In _ _ _ _).mono ?_
      rintro e w' ⟨rfl, rfl⟩
      rw [H4.out]
      go_wp2_with fail
      refine (l1In _ _ _ _).mono ?_
      rintro e w' ⟨rfl, rfl⟩
      rw [HQ.out]
      go_wp2
      go_ret
      exact ⟨by rw [HO.out]; rfl, (Below.refl _ _).alloc (Nat.le_refl _) _⟩
    · have HQ := Lib.hid hq
      have HL : Hid (lB 1 level = (inB level 1 100 && decide (level % 2 = 1))) := rfl
      have HOL := Lib.hid (opB_level (level := level) HH.out hki (by exact hq))
      clear hki hq
      rcases hl : inB level 1 100 with _ | _
      · have HO : Hid (opB dev seq stamp 1 item qty level undos = false) := by show opB _ _ _ _ _ _ _ _ = _; rw [HOL.out, HL.out, hl]; rfl
        have HV := Lib.hid hl
        clear hl
        go_enter Try.func79, Try.ntmps79
        go_wp2_with fail
        refine (l3Dev _ _).mono ?_
        rintro e w' ⟨rfl, rfl⟩
        rw [H0.out]
        go_wp2_with fail
        refine (l1In _ _ _ _).mono ?_
        rintro e w' ⟨rfl, rfl⟩
        rw [H1.out]
        go_wp2_with fail
        refine (l1In _ _ _ _).mono ?_
        rintro e w' ⟨rfl, rfl⟩
        rw [H2.out]
        go_wp2_with fail
        refine (l3Item _ hs _).mono ?_
        rintro e w' ⟨rfl, rfl⟩
        rw [H3.out]
        go_wp2_with fail
        refine (l1In _ _ _ _).mono ?_
        rintro e w' ⟨rfl, rfl⟩
        rw [H4.out]
        go_wp2_with fail
        refine (l1In _ _ _ _).mono ?_
        rintro e w' ⟨rfl, rfl⟩
        rw [HQ.out]
        go_wp2_with fail
        refine (l1In _ _ _ _).mono ?_
        rintro e w' ⟨rfl, rfl⟩
        rw [HV.out]
        go_wp2
        go_ret
        exact ⟨by rw [HO.out]; rfl, (Below.refl _ _).alloc (Nat.le_refl _) _⟩
      · obtain ⟨g1, g2⟩ := inB_iff.1 hl
        have HV := Lib.hid hl
        by_cases hm : level % 2 = 1
        · have HO : Hid (opB dev seq stamp 1 item qty level undos = true) := by show opB _ _ _ _ _ _ _ _ = _; rw [HOL.out, HL.out, hl, decide_eq_true hm]; rfl
          have hm' : (level % 2 == 1) = true := by rw [hm]; rfl
          clear hm hl
          go_enter Try.func79, Try.ntmps79
          go_wp2_with fail
          refine (l3Dev _ _).mono ?_
          rintro e w' ⟨rfl, rfl⟩
          rw [H0.out]
          go_wp2_with fail
          refine (l1In _ _ _ _).mono ?_
          rintro e w' ⟨rfl, rfl⟩
          rw [H1.out]
          go_wp2_with fail
          refine (l1In _ _ _ _).mono ?_
          rintro e w' ⟨rfl, rfl⟩
          rw [H2.out]
          go_wp2_with fail
          refine (l3Item _ hs _).mono ?_
          rintro e w' ⟨rfl, rfl⟩
          rw [H3.out]
          go_wp2_with fail
          refine (l1In _ _ _ _).mono ?_
          rintro e w' ⟨rfl, rfl⟩
          rw [H4.out]
          go_wp2_with fail
          refine (l1In _ _ _ _).mono ?_
          rintro e w' ⟨rfl, rfl⟩
          rw [HQ.out]
          go_wp2_with fail
          refine (l1In _ _ _ _).mono ?_
          rintro e w' ⟨rfl, rfl⟩
          rw [HV.out]
          go_wp2
          go_ret
          exact ⟨by rw [HO.out]; rfl, (Below.refl _ _).alloc (Nat.le_refl _) _⟩
        · have HO : Hid (opB dev seq stamp 1 item qty level undos = false) := by show opB _ _ _ _ _ _ _ _ = _; rw [HOL.out, HL.out, hl, decide_eq_false hm]; rfl
          have hm' : (level % 2 == 1) = false := by rw [beq_eq_false_iff_ne]; exact hm
          clear hm hl
          go_enter Try.func79, Try.ntmps79
          go_wp2_with fail
          refine (l3Dev _ _).mono ?_
          rintro e w' ⟨rfl, rfl⟩
          rw [H0.out]
          go_wp2_with fail
          refine (l1In _ _ _ _).mono ?_
          rintro e w' ⟨rfl, rfl⟩
          rw [H1.out]
          go_wp2_with fail
          refine (l1In _ _ _ _).mono ?_
          rintro e w' ⟨rfl, rfl⟩
          rw [H2.out]
          go_wp2_with fail
          refine (l3Item _ hs _).mono ?_
          rintro e w' ⟨rfl, rfl⟩
          rw [H3.out]
          go_wp2_with fail
          refine (l1In _ _ _ _).mono ?_
          rintro e w' ⟨rfl, rfl⟩
          rw [H4.out]
          go_wp2_with fail
          refine (l1In _ _ _ _).mono ?_
          rintro e w' ⟨rfl, rfl⟩
          rw [HQ.out]
          go_wp2_with fail
          refine (l1In _ _ _ _).mono ?_
          rintro e w' ⟨rfl, rfl⟩
          rw [HV.out]
          go_wp2
          go_ret
          exact ⟨by rw [HO.out]; rfl, (Below.refl _ _).alloc (Nat.le_refl _) _⟩
  · rcases hq : inB qty 1 999 with _ | _
    · have HO := Lib.hid (opB_qty (dev := dev) (seq := seq) (stamp := stamp) (item := item) (level := level) (undos := undos) (kind := 2) (by exact hq))
      have HQ := Lib.hid hq
      clear hq hki
      go_enter Try.func79, Try.ntmps79
      go_wp2_with fail
      refine (l3Dev _ _).mono ?_
      rintro e w' ⟨rfl, rfl⟩
      rw [H0.out]
      go_wp2_with fail
      refine (l1In _ _ _ _).mono ?_
      rintro e w' ⟨rfl, rfl⟩
      rw [H1.out]
      go_wp2_with fail
      refine (l1In _ _ _ _).mono ?_
      rintro e w' ⟨rfl, rfl⟩
      rw [H2.out]
      go_wp2_with fail
      refine (l3Item _ hs _).mono ?_
      rintro e w' ⟨rfl, rfl⟩
      rw [H3.out]
      go_wp2_with fail
      refine (l1In _ _ _ _).mono ?_
      rintro e w' ⟨rfl, rfl⟩
      rw [H4.out]
      go_wp2_with fail
      refine (l1In _ _ _ _).mono ?_
      rintro e w' ⟨rfl, rfl⟩
      rw [HQ.out]
      go_wp2
      go_ret
      exact ⟨by rw [HO.out]; rfl, (Below.refl _ _).alloc (Nat.le_refl _) _⟩
    · have HQ := Lib.hid hq
      have HOL := Lib.hid (opB_level (level := level) HH.out hki (by exact hq))
      clear hki hq
      by_cases hm : level = 0
      · subst hm
        have HO : Hid (opB dev seq stamp 2 item qty 0 undos = true) := by show opB _ _ _ _ _ _ _ _ = _; rw [HOL.out]; rfl
        go_enter Try.func79, Try.ntmps79
        go_wp2_with fail
        refine (l3Dev _ _).mono ?_
        rintro e w' ⟨rfl, rfl⟩
        rw [H0.out]
        go_wp2_with fail
        refine (l1In _ _ _ _).mono ?_
        rintro e w' ⟨rfl, rfl⟩
        rw [H1.out]
        go_wp2_with fail
        refine (l1In _ _ _ _).mono ?_
        rintro e w' ⟨rfl, rfl⟩
        rw [H2.out]
        go_wp2_with fail
        refine (l3Item _ hs _).mono ?_
        rintro e w' ⟨rfl, rfl⟩
        rw [H3.out]
        go_wp2_with fail
        refine (l1In _ _ _ _).mono ?_
        rintro e w' ⟨rfl, rfl⟩
        rw [H4.out]
        go_wp2_with fail
        refine (l1In _ _ _ _).mono ?_
        rintro e w' ⟨rfl, rfl⟩
        rw [HQ.out]
        go_wp2
        go_ret
        exact ⟨by rw [HO.out]; rfl, (Below.refl _ _).alloc (Nat.le_refl _) _⟩
      · have HO : Hid (opB dev seq stamp 2 item qty level undos = false) := by show opB _ _ _ _ _ _ _ _ = _; rw [HOL.out]; exact decide_eq_false hm
        have hm' : (level == 0) = false := by rw [beq_eq_false_iff_ne]; exact hm
        clear hm
        go_enter Try.func79, Try.ntmps79
        go_wp2_with fail
        refine (l3Dev _ _).mono ?_
        rintro e w' ⟨rfl, rfl⟩
        rw [H0.out]
        go_wp2_with fail
        refine (l1In _ _ _ _).mono ?_
        rintro e w' ⟨rfl, rfl⟩
        rw [H1.out]
        go_wp2_with fail
        refine (l1In _ _ _ _).mono ?_
        rintro e w' ⟨rfl, rfl⟩
        rw [H2.out]
        go_wp2_with fail
        refine (l3Item _ hs _).mono ?_
        rintro e w' ⟨rfl, rfl⟩
        rw [H3.out]
        go_wp2_with fail
        refine (l1In _ _ _ _).mono ?_
        rintro e w' ⟨rfl, rfl⟩
        rw [H4.out]
        go_wp2_with fail
        refine (l1In _ _ _ _).mono ?_
        rintro e w' ⟨rfl, rfl⟩
        rw [HQ.out]
        go_wp2
        go_ret
        exact ⟨by rw [HO.out]; rfl, (Below.refl _ _).alloc (Nat.le_refl _) _⟩
  · by_cases hq : qty = 0
    rotate_left
    · have hqb : (qty == 0) = false := by rw [beq_eq_false_iff_ne]; exact hq
      have HO := Lib.hid (opB_qty (dev := dev) (seq := seq) (stamp := stamp) (item := item) (level := level) (undos := undos) (kind := 3) (decide_eq_false hq))
      clear hq hki
      go_enter Try.func79, Try.ntmps79
      go_wp2_with fail
      refine (l3Dev _ _).mono ?_
      rintro e w' ⟨rfl, rfl⟩
      rw [H0.out]
      go_wp2_with fail
      refine (l1In _ _ _ _).mono ?_
      rintro e w' ⟨rfl, rfl⟩
      rw [H1.out]
      go_wp2_with fail
      refine (l1In _ _ _ _).mono ?_
      rintro e w' ⟨rfl, rfl⟩
      rw [H2.out]
      go_wp2_with fail
      refine (l3Item _ hs _).mono ?_
      rintro e w' ⟨rfl, rfl⟩
      rw [H3.out]
      go_wp2_with fail
      refine (l1In _ _ _ _).mono ?_
      rintro e w' ⟨rfl, rfl⟩
      rw [H4.out]
      go_wp2
      go_ret
      exact ⟨by rw [HO.out]; rfl, (Below.refl _ _).alloc (Nat.le_refl _) _⟩
    · subst hq
      have HL : Hid (lB 3 level = (inB level 1 100 && decide (level % 2 = 0))) := l3_even
      have HOL := Lib.hid (opB_level (level := level) HH.out hki (show qB 3 0 = true from rfl))
      clear hki
      rcases hl : inB level 1 100 with _ | _
      · have HO : Hid (opB dev seq stamp 3 item 0 level undos = false) := by show opB _ _ _ _ _ _ _ _ = _; rw [HOL.out, HL.out, hl]; rfl
        have HV := Lib.hid hl
        clear hl
        go_enter Try.func79, Try.ntmps79
        go_wp2_with fail
        refine (l3Dev _ _).mono ?_
        rintro e w' ⟨rfl, rfl⟩
        rw [H0.out]
        go_wp2_with fail
        refine (l1In _ _ _ _).mono ?_
        rintro e w' ⟨rfl, rfl⟩
        rw [H1.out]
        go_wp2_with fail
        refine (l1In _ _ _ _).mono ?_
        rintro e w' ⟨rfl, rfl⟩
        rw [H2.out]
        go_wp2_with fail
        refine (l3Item _ hs _).mono ?_
        rintro e w' ⟨rfl, rfl⟩
        rw [H3.out]
        go_wp2_with fail
        refine (l1In _ _ _ _).mono ?_
        rintro e w' ⟨rfl, rfl⟩
        rw [H4.out]
        go_wp2_with fail
        refine (l1In _ _ _ _).mono ?_
        rintro e w' ⟨rfl, rfl⟩
        rw [HV.out]
        go_wp2
        go_ret
        exact ⟨by rw [HO.out]; rfl, (Below.refl _ _).alloc (Nat.le_refl _) _⟩
      · obtain ⟨g1, g2⟩ := inB_iff.1 hl
        have HV := Lib.hid hl
        by_cases hm : level % 2 = 0
        · have HO : Hid (opB dev seq stamp 3 item 0 level undos = true) := by show opB _ _ _ _ _ _ _ _ = _; rw [HOL.out, HL.out, hl, decide_eq_true hm]; rfl
          have hm' : (level % 2 == 0) = true := by rw [hm]; rfl
          clear hm hl
          go_enter Try.func79, Try.ntmps79
          go_wp2_with fail
          refine (l3Dev _ _).mono ?_
          rintro e w' ⟨rfl, rfl⟩
          rw [H0.out]
          go_wp2_with fail
          refine (l1In _ _ _ _).mono ?_
          rintro e w' ⟨rfl, rfl⟩
          rw [H1.out]
          go_wp2_with fail
          refine (l1In _ _ _ _).mono ?_
          rintro e w' ⟨rfl, rfl⟩
          rw [H2.out]
          go_wp2_with fail
          refine (l3Item _ hs _).mono ?_
          rintro e w' ⟨rfl, rfl⟩
          rw [H3.out]
          go_wp2_with fail
          refine (l1In _ _ _ _).mono ?_
          rintro e w' ⟨rfl, rfl⟩
          rw [H4.out]
          go_wp2_with fail
          refine (l1In _ _ _ _).mono ?_
          rintro e w' ⟨rfl, rfl⟩
          rw [HV.out]
          go_wp2
          go_ret
          exact ⟨by rw [HO.out]; rfl, (Below.refl _ _).alloc (Nat.le_refl _) _⟩
        · have HO : Hid (opB dev seq stamp 3 item 0 level undos = false) := by show opB _ _ _ _ _ _ _ _ = _; rw [HOL.out, HL.out, hl, decide_eq_false hm]; rfl
          have hm' : (level % 2 == 0) = false := by rw [beq_eq_false_iff_ne]; exact hm
          clear hm hl
          go_enter Try.func79, Try.ntmps79
          go_wp2_with fail
          refine (l3Dev _ _).mono ?_
          rintro e w' ⟨rfl, rfl⟩
          rw [H0.out]
          go_wp2_with fail
          refine (l1In _ _ _ _).mono ?_
          rintro e w' ⟨rfl, rfl⟩
          rw [H1.out]
          go_wp2_with fail
          refine (l1In _ _ _ _).mono ?_
          rintro e w' ⟨rfl, rfl⟩
          rw [H2.out]
          go_wp2_with fail
          refine (l3Item _ hs _).mono ?_
          rintro e w' ⟨rfl, rfl⟩
          rw [H3.out]
          go_wp2_with fail
          refine (l1In _ _ _ _).mono ?_
          rintro e w' ⟨rfl, rfl⟩
          rw [H4.out]
          go_wp2_with fail
          refine (l1In _ _ _ _).mono ?_
          rintro e w' ⟨rfl, rfl⟩
          rw [HV.out]
          go_wp2
          go_ret
          exact ⟨by rw [HO.out]; rfl, (Below.refl _ _).alloc (Nat.le_refl _) _⟩
  · by_cases hq : qty = 0
    rotate_left
    · have hqb : (qty == 0) = false := by rw [beq_eq_false_iff_ne]; exact hq
      have HO := Lib.hid (opB_qty (dev := dev) (seq := seq) (stamp := stamp) (item := item) (level := level) (undos := undos) (kind := 4) (decide_eq_false hq))
      clear hq hki
      go_enter Try.func79, Try.ntmps79
      go_wp2_with fail
      refine (l3Dev _ _).mono ?_
      rintro e w' ⟨rfl, rfl⟩
      rw [H0.out]
      go_wp2_with fail
      refine (l1In _ _ _ _).mono ?_
      rintro e w' ⟨rfl, rfl⟩
      rw [H1.out]
      go_wp2_with fail
      refine (l1In _ _ _ _).mono ?_
      rintro e w' ⟨rfl, rfl⟩
      rw [H2.out]
      go_wp2_with fail
      refine (l3Item _ hs _).mono ?_
      rintro e w' ⟨rfl, rfl⟩
      rw [H3.out]
      go_wp2_with fail
      refine (l1In _ _ _ _).mono ?_
      rintro e w' ⟨rfl, rfl⟩
      rw [H4.out]
      go_wp2
      go_ret
      exact ⟨by rw [HO.out]; rfl, (Below.refl _ _).alloc (Nat.le_refl _) _⟩
    · subst hq
      have HOL := Lib.hid (opB_level (level := level) HH.out hki (show qB 4 0 = true from rfl))
      clear hki
      by_cases hm : level = 0
      · subst hm
        have HO : Hid (opB dev seq stamp 4 item 0 0 undos = true) := by show opB _ _ _ _ _ _ _ _ = _; rw [HOL.out]; rfl
        go_enter Try.func79, Try.ntmps79
        go_wp2_with fail
        refine (l3Dev _ _).mono ?_
        rintro e w' ⟨rfl, rfl⟩
        rw [H0.out]
        go_wp2_with fail
        refine (l1In _ _ _ _).mono ?_
        rintro e w' ⟨rfl, rfl⟩
        rw [H1.out]
        go_wp2_with fail
        refine (l1In _ _ _ _).mono ?_
        rintro e w' ⟨rfl, rfl⟩
        rw [H2.out]
        go_wp2_with fail
        refine (l3Item _ hs _).mono ?_
        rintro e w' ⟨rfl, rfl⟩
        rw [H3.out]
        go_wp2_with fail
        refine (l1In _ _ _ _).mono ?_
        rintro e w' ⟨rfl, rfl⟩
        rw [H4.out]
        go_wp2
        go_ret
        exact ⟨by rw [HO.out]; rfl, (Below.refl _ _).alloc (Nat.le_refl _) _⟩
      · have HO : Hid (opB dev seq stamp 4 item 0 level undos = false) := by show opB _ _ _ _ _ _ _ _ = _; rw [HOL.out]; exact decide_eq_false hm
        have hm' : (level == 0) = false := by rw [beq_eq_false_iff_ne]; exact hm
        clear hm
        go_enter Try.func79, Try.ntmps79
        go_wp2_with fail
        refine (l3Dev _ _).mono ?_
        rintro e w' ⟨rfl, rfl⟩
        rw [H0.out]
        go_wp2_with fail
        refine (l1In _ _ _ _).mono ?_
        rintro e w' ⟨rfl, rfl⟩
        rw [H1.out]
        go_wp2_with fail
        refine (l1In _ _ _ _).mono ?_
        rintro e w' ⟨rfl, rfl⟩
        rw [H2.out]
        go_wp2_with fail
        refine (l3Item _ hs _).mono ?_
        rintro e w' ⟨rfl, rfl⟩
        rw [H3.out]
        go_wp2_with fail
        refine (l1In _ _ _ _).mono ?_
        rintro e w' ⟨rfl, rfl⟩
        rw [H4.out]
        go_wp2
        go_ret
        exact ⟨by rw [HO.out]; rfl, (Below.refl _ _).alloc (Nat.le_refl _) _⟩
  · by_cases hq : qty = 0
    rotate_left
    · have hqb : (qty == 0) = false := by rw [beq_eq_false_iff_ne]; exact hq
      have HO := Lib.hid (opB_qty (dev := dev) (seq := seq) (stamp := stamp) (item := item) (level := level) (undos := undos) (kind := 5) (decide_eq_false hq))
      clear hq hki
      go_enter Try.func79, Try.ntmps79
      go_wp2_with fail
      refine (l3Dev _ _).mono ?_
      rintro e w' ⟨rfl, rfl⟩
      rw [H0.out]
      go_wp2_with fail
      refine (l1In _ _ _ _).mono ?_
      rintro e w' ⟨rfl, rfl⟩
      rw [H1.out]
      go_wp2_with fail
      refine (l1In _ _ _ _).mono ?_
      rintro e w' ⟨rfl, rfl⟩
      rw [H2.out]
      go_wp2_with fail
      refine (l3Item _ hs _).mono ?_
      rintro e w' ⟨rfl, rfl⟩
      rw [H3.out]
      go_wp2_with fail
      refine (l1In _ _ _ _).mono ?_
      rintro e w' ⟨rfl, rfl⟩
      rw [H4.out]
      go_wp2
      go_ret
      exact ⟨by rw [HO.out]; rfl, (Below.refl _ _).alloc (Nat.le_refl _) _⟩
    · subst hq
      have HOL := Lib.hid (opB_level (level := level) HH.out hki (show qB 5 0 = true from rfl))
      clear hki
      by_cases hm : level = 0
      · subst hm
        have HO : Hid (opB dev seq stamp 5 item 0 0 undos = true) := by show opB _ _ _ _ _ _ _ _ = _; rw [HOL.out]; rfl
        go_enter Try.func79, Try.ntmps79
        go_wp2_with fail
        refine (l3Dev _ _).mono ?_
        rintro e w' ⟨rfl, rfl⟩
        rw [H0.out]
        go_wp2_with fail
        refine (l1In _ _ _ _).mono ?_
        rintro e w' ⟨rfl, rfl⟩
        rw [H1.out]
        go_wp2_with fail
        refine (l1In _ _ _ _).mono ?_
        rintro e w' ⟨rfl, rfl⟩
        rw [H2.out]
        go_wp2_with fail
        refine (l3Item _ hs _).mono ?_
        rintro e w' ⟨rfl, rfl⟩
        rw [H3.out]
        go_wp2_with fail
        refine (l1In _ _ _ _).mono ?_
        rintro e w' ⟨rfl, rfl⟩
        rw [H4.out]
        go_wp2
        go_ret
        exact ⟨by rw [HO.out]; rfl, (Below.refl _ _).alloc (Nat.le_refl _) _⟩
      · have HO : Hid (opB dev seq stamp 5 item 0 level undos = false) := by show opB _ _ _ _ _ _ _ _ = _; rw [HOL.out]; exact decide_eq_false hm
        have hm' : (level == 0) = false := by rw [beq_eq_false_iff_ne]; exact hm
        clear hm
        go_enter Try.func79, Try.ntmps79
        go_wp2_with fail
        refine (l3Dev _ _).mono ?_
        rintro e w' ⟨rfl, rfl⟩
        rw [H0.out]
        go_wp2_with fail
        refine (l1In _ _ _ _).mono ?_
        rintro e w' ⟨rfl, rfl⟩
        rw [H1.out]
        go_wp2_with fail
        refine (l1In _ _ _ _).mono ?_
        rintro e w' ⟨rfl, rfl⟩
        rw [H2.out]
        go_wp2_with fail
        refine (l3Item _ hs _).mono ?_
        rintro e w' ⟨rfl, rfl⟩
        rw [H3.out]
        go_wp2_with fail
        refine (l1In _ _ _ _).mono ?_
        rintro e w' ⟨rfl, rfl⟩
        rw [H4.out]
        go_wp2
        go_ret
        exact ⟨by rw [HO.out]; rfl, (Below.refl _ _).alloc (Nat.le_refl _) _⟩
end Go.Proofs.Ytdbdmfaphdjdpaa
