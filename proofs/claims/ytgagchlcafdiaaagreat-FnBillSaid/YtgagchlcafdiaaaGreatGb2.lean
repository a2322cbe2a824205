/- Walks and mathematics that several claims share, part 2. -/
import Derived.Test.YtgagchlcafdiaaaGreatGb1
import Derived.Below
import Derived.Laws.Rows
import Derived.OpenShut
import Derived.Test.YtgagchlcafdiaaaGreatGbA
namespace Go.Proofs.YtgagchlcafdiaaaGreat
set_option maxRecDepth 100000
open Go.RowKit
set_option linter.unusedVariables false
set_option linter.unusedSimpArgs false

theorem boxAt {w w1 : World} {cs : Array Value} {T : TypeId} (hb : Below (w.alloc (.cells cs T)).heap.size (w.alloc (.cells cs T)) w1) : w1.heap[w.heap.size]? = some (.cells cs T (0, 0)) :=
 (hb.block _ (by show _ < (w.heap.push _).size; simp)).trans (by show (w.heap.push _)[_]? = _; simp)
theorem box_below {w w1 : World} {o : Obj} (hb : Below (w.alloc o).heap.size (w.alloc o) w1) : Below w.heap.size w w1 :=
 ((Below.refl _ w).alloc (Nat.le_refl _) o).trans (hb.mono (by show _ ≤ (w.heap.push _).size; simp))

set_option maxHeartbeats 10000000 in
theorem specOpOk (dev seq stamp kind : Int) (item : ByteArray) (qty level undos : Int) (w : World) (hs : item.size ≤ 1048576) :
  Calls Tryz.prog 86 #[.agg #[.int .i64 dev, .int .i64 seq, .int .i64 stamp, .int .i64 kind, .string item, .int .i64 qty, .int .i64 level, .int .i64 undos]] w (fun e w' => e = .returned (.bool (opB dev seq stamp kind item qty level undos)) ∧ Below w.heap.size w w') := by
 rcases h0 : inB dev 0 3 with _ | _
 ·have HO := Lib.hid (opB_head (kind := kind) (qty := qty) (level := level) (head_no (dev := dev) (seq := seq) (stamp := stamp) (item := item) (undos := undos) (.inl h0)))
  have H0 := Lib.hid h0
  clear h0
  go_enter Tryz.func86, Tryz.ntmps86
  go_wp2_with fail
  refine (l3Dev _ _).mono ?_
  rintro e w' ⟨rfl, rfl⟩
  rw [H0.out]
  go_wp2
  go_ret
  exact ⟨by rw [HO.out]; rfl, bl⟩
 have H0 := Lib.hid h0
 rcases h1 : inB seq 1 40 with _ | _
 ·have HO := Lib.hid (opB_head (kind := kind) (qty := qty) (level := level) (head_no (dev := dev) (seq := seq) (stamp := stamp) (item := item) (undos := undos) (.inr (.inl h1))))
  have H1 := Lib.hid h1
  clear h0 h1
  go_enter Tryz.func86, Tryz.ntmps86
  go_wp2_with fail
  refine (l3Dev _ _).mono ?_
  rintro e w' ⟨rfl, rfl⟩
  rw [H0.out]
  go_wp2_with fail
  refine (l1In _ _ _ _).mono ?_
  rintro e w' ⟨rfl, rfl⟩
  rw [H1.out]
  go_wp2
  go_ret
  exact ⟨by rw [HO.out]; rfl, bl⟩
 have H1 := Lib.hid h1
 rcases h2 : inB stamp 1 100000 with _ | _
 ·have HO := Lib.hid (opB_head (kind := kind) (qty := qty) (level := level) (head_no (dev := dev) (seq := seq) (stamp := stamp) (item := item) (undos := undos) (.inr (.inr (.inl h2)))))
  have H2 := Lib.hid h2
  clear h0 h1 h2
  go_enter Tryz.func86, Tryz.ntmps86
  go_wp2_with fail
  refine (l3Dev _ _).mono ?_
  rintro e w' ⟨rfl, rfl⟩
  rw [H0.out]
  go_wp2_with fail
  refine (l1In _ _ _ _).mono ?_
  rintro e w' ⟨rfl, rfl⟩
  rw [H1.out]
  go_wp2_with fail
  refine (l1In _ _ _ _).mono ?_
  rintro e w' ⟨rfl, rfl⟩
  rw [H2.out]
  go_wp2
  go_ret
  exact ⟨by rw [HO.out]; rfl, bl⟩
 have H2 := Lib.hid h2
 rcases h3 : itemB item with _ | _
 ·have HO := Lib.hid (opB_head (kind := kind) (qty := qty) (level := level) (head_no (dev := dev) (seq := seq) (stamp := stamp) (item := item) (undos := undos) (.inr (.inr (.inr (.inl h3))))))
  have H3 := Lib.hid h3
  clear h0 h1 h2 h3
  go_enter Tryz.func86, Tryz.ntmps86
  go_wp2_with fail
  refine (l3Dev _ _).mono ?_
  rintro e w' ⟨rfl, rfl⟩
  rw [H0.out]
  go_wp2_with fail
  refine (l1In _ _ _ _).mono ?_
  rintro e w' ⟨rfl, rfl⟩
  rw [H1.out]
  go_wp2_with fail
  refine (l1In _ _ _ _).mono ?_
  rintro e w' ⟨rfl, rfl⟩
  rw [H2.out]
  go_wp2_with fail
  refine (l3Item _ hs _).mono ?_
  rintro e w' ⟨rfl, rfl⟩
  rw [H3.out]
  go_wp2
  go_ret
  exact ⟨by rw [HO.out]; rfl, bl⟩
 have H3 := Lib.hid h3
 rcases h4 : inB undos 0 50 with _ | _
 ·have HO := Lib.hid (opB_head (kind := kind) (qty := qty) (level := level) (head_no (dev := dev) (seq := seq) (stamp := stamp) (item := item) (undos := undos) (.inr (.inr (.inr (.inr (h4)))))))
  have H4 := Lib.hid h4
  clear h0 h1 h2 h3 h4
  go_enter Tryz.func86, Tryz.ntmps86
  go_wp2_with fail
  refine (l3Dev _ _).mono ?_
  rintro e w' ⟨rfl, rfl⟩
  rw [H0.out]
  go_wp2_with fail
  refine (l1In _ _ _ _).mono ?_
  rintro e w' ⟨rfl, rfl⟩
  rw [H1.out]
  go_wp2_with fail
  refine (l1In _ _ _ _).mono ?_
  rintro e w' ⟨rfl, rfl⟩
  rw [H2.out]
  go_wp2_with fail
  refine (l3Item _ hs _).mono ?_
  rintro e w' ⟨rfl, rfl⟩
  rw [H3.out]
  go_wp2_with fail
  refine (l1In _ _ _ _).mono ?_
  rintro e w' ⟨rfl, rfl⟩
  rw [H4.out]
  go_wp2
  go_ret
  exact ⟨by rw [HO.out]; rfl, bl⟩
 have H4 := Lib.hid h4
 have HH := Lib.hid (head_yes h0 h1 h2 h3 h4)
 clear h0 h1 h2 h3 h4
 rcases hki : kindB kind with _ | _
 ·have HO := Lib.hid (opB_kind (dev := dev) (seq := seq) (stamp := stamp) (item := item) (qty := qty) (level := level) (undos := undos) hki)
  have hn : ¬ (1 ≤ kind ∧ kind ≤ 5) := fun h' => by have := inB_iff.2 h'; unfold kindB at hki; rw [this] at hki; cases hki
  have n1 : (kind == 1) = false := by rw [beq_eq_false_iff_ne]; omega
  have n2 : (kind == 2) = false := by rw [beq_eq_false_iff_ne]; omega
  have n3 : (kind == 3) = false := by rw [beq_eq_false_iff_ne]; omega
  have n4 : (kind == 4) = false := by rw [beq_eq_false_iff_ne]; omega
  have n5 : (kind == 5) = false := by rw [beq_eq_false_iff_ne]; omega
  clear hki hn
  go_enter Tryz.func86, Tryz.ntmps86
  go_wp2_with fail
  refine (l3Dev _ _).mono ?_
  rintro e w' ⟨rfl, rfl⟩
  rw [H0.out]
  go_wp2_with fail
  refine (l1In _ _ _ _).mono ?_
  rintro e w' ⟨rfl, rfl⟩
  rw [H1.out]
  go_wp2_with fail
  refine (l1In _ _ _ _).mono ?_
  rintro e w' ⟨rfl, rfl⟩
  rw [H2.out]
  go_wp2_with fail
  refine (l3Item _ hs _).mono ?_
  rintro e w' ⟨rfl, rfl⟩
  rw [H3.out]
  go_wp2_with fail
  refine (l1In _ _ _ _).mono ?_
  rintro e w' ⟨rfl, rfl⟩
  rw [H4.out]
  go_wp2
  go_ret
  exact ⟨by rw [HO.out]; rfl, bl⟩
 rcases kind_cases hki with rfl | rfl | rfl | rfl | rfl
 ·rcases hq : inB qty 1 999 with _ | _
  ·have HO := Lib.hid (opB_qty (dev := dev) (seq := seq) (stamp := stamp) (item := item) (level := level) (undos := undos) (kind := 1) (by exact hq))
   have HQ := Lib.hid hq
   clear hq hki
   go_enter Tryz.func86, Tryz.ntmps86
   go_wp2_with fail
   refine (l3Dev _ _).mono ?_
   rintro e w' ⟨rfl, rfl⟩
   rw [H0.out]
   go_wp2_with fail
   refine (l1In _ _ _ _).mono ?_
   rintro e w' ⟨rfl, rfl⟩
   rw [H1.out]
   go_wp2_with fail
   refine (l1In _ _ _ _).mono ?_
   rintro e w' ⟨rfl, rfl⟩
   rw [H2.out]
   go_wp2_with fail
   refine (l3Item _ hs _).mono ?_
   rintro e w' ⟨rfl, rfl⟩
   rw [H3.out]
   go_wp2_with fail
   refine (l1In _ _ _ _).mono ?_
   rintro e w' ⟨rfl, rfl⟩
   rw [H4.out]
   go_wp2_with fail
   refine (l1In _ _ _ _).mono ?_
   rintro e w' ⟨rfl, rfl⟩
   rw [HQ.out]
   go_wp2
   go_ret
   exact ⟨by rw [HO.out]; rfl, bl⟩
  ·have HQ := Lib.hid hq
   have HL : Hid (lB 1 level = (inB level 1 100 && decide (level % 2 = 1))) := rfl
   have HOL := Lib.hid (opB_level (level := level) HH.out hki (by exact hq))
   clear hki hq
   rcases hl : inB level 1 100 with _ | _
   ·have HO : Hid (opB dev seq stamp 1 item qty level undos = false) := by show opB _ _ _ _ _ _ _ _ = _; rw [HOL.out, HL.out, hl]; rfl
    have HV := Lib.hid hl
    clear hl
    go_enter Tryz.func86, Tryz.ntmps86
    go_wp2_with fail
    refine (l3Dev _ _).mono ?_
    rintro e w' ⟨rfl, rfl⟩
    rw [H0.out]
    go_wp2_with fail
    refine (l1In _ _ _ _).mono ?_
    rintro e w' ⟨rfl, rfl⟩
    rw [H1.out]
    go_wp2_with fail
    refine (l1In _ _ _ _).mono ?_
    rintro e w' ⟨rfl, rfl⟩
    rw [H2.out]
    go_wp2_with fail
    refine (l3Item _ hs _).mono ?_
    rintro e w' ⟨rfl, rfl⟩
    rw [H3.out]
    go_wp2_with fail
    refine (l1In _ _ _ _).mono ?_
    rintro e w' ⟨rfl, rfl⟩
    rw [H4.out]
    go_wp2_with fail
    refine (l1In _ _ _ _).mono ?_
    rintro e w' ⟨rfl, rfl⟩
    rw [HQ.out]
    go_wp2_with fail
    refine (l1In _ _ _ _).mono ?_
    rintro e w' ⟨rfl, rfl⟩
    rw [HV.out]
    go_wp2
    go_ret
    exact ⟨by rw [HO.out]; rfl, bl⟩
   ·obtain ⟨g1, g2⟩ := inB_iff.1 hl
    have HV := Lib.hid hl
    by_cases hm : level % 2 = 1
    ·have HO : Hid (opB dev seq stamp 1 item qty level undos = true) := by show opB _ _ _ _ _ _ _ _ = _; rw [HOL.out, HL.out, hl, decide_eq_true hm]; rfl
     have hm' : (level % 2 == 1) = true := by rw [hm]; rfl
     clear hm hl
     go_enter Tryz.func86, Tryz.ntmps86
     go_wp2_with fail
     refine (l3Dev _ _).mono ?_
     rintro e w' ⟨rfl, rfl⟩
     rw [H0.out]
     go_wp2_with fail
     refine (l1In _ _ _ _).mono ?_
     rintro e w' ⟨rfl, rfl⟩
     rw [H1.out]
     go_wp2_with fail
     refine (l1In _ _ _ _).mono ?_
     rintro e w' ⟨rfl, rfl⟩
     rw [H2.out]
     go_wp2_with fail
     refine (l3Item _ hs _).mono ?_
     rintro e w' ⟨rfl, rfl⟩
     rw [H3.out]
     go_wp2_with fail
     refine (l1In _ _ _ _).mono ?_
     rintro e w' ⟨rfl, rfl⟩
     rw [H4.out]
     go_wp2_with fail
     refine (l1In _ _ _ _).mono ?_
     rintro e w' ⟨rfl, rfl⟩
     rw [HQ.out]
     go_wp2_with fail
     refine (l1In _ _ _ _).mono ?_
     rintro e w' ⟨rfl, rfl⟩
     rw [HV.out]
     go_wp2
     go_ret
     exact ⟨by rw [HO.out]; rfl, bl⟩
    ·have HO : Hid (opB dev seq stamp 1 item qty level undos = false) := by show opB _ _ _ _ _ _ _ _ = _; rw [HOL.out, HL.out, hl, decide_eq_false hm]; rfl
     have hm' : (level % 2 == 1) = false := by rw [beq_eq_false_iff_ne]; exact hm
     clear hm hl
     go_enter Tryz.func86, Tryz.ntmps86
     go_wp2_with fail
     refine (l3Dev _ _).mono ?_
     rintro e w' ⟨rfl, rfl⟩
     rw [H0.out]
     go_wp2_with fail
     refine (l1In _ _ _ _).mono ?_
     rintro e w' ⟨rfl, rfl⟩
     rw [H1.out]
     go_wp2_with fail
     refine (l1In _ _ _ _).mono ?_
     rintro e w' ⟨rfl, rfl⟩
     rw [H2.out]
     go_wp2_with fail
     refine (l3Item _ hs _).mono ?_
     rintro e w' ⟨rfl, rfl⟩
     rw [H3.out]
     go_wp2_with fail
     refine (l1In _ _ _ _).mono ?_
     rintro e w' ⟨rfl, rfl⟩
     rw [H4.out]
     go_wp2_with fail
     refine (l1In _ _ _ _).mono ?_
     rintro e w' ⟨rfl, rfl⟩
     rw [HQ.out]
     go_wp2_with fail
     refine (l1In _ _ _ _).mono ?_
     rintro e w' ⟨rfl, rfl⟩
     rw [HV.out]
     go_wp2
     go_ret
     exact ⟨by rw [HO.out]; rfl, bl⟩
 ·rcases hq : inB qty 1 999 with _ | _
  ·have HO := Lib.hid (opB_qty (dev := dev) (seq := seq) (stamp := stamp) (item := item) (level := level) (undos := undos) (kind := 2) (by exact hq))
   have HQ := Lib.hid hq
   clear hq hki
   go_enter Tryz.func86, Tryz.ntmps86
   go_wp2_with fail
   refine (l3Dev _ _).mono ?_
   rintro e w' ⟨rfl, rfl⟩
   rw [H0.out]
   go_wp2_with fail
   refine (l1In _ _ _ _).mono ?_
   rintro e w' ⟨rfl, rfl⟩
   rw [H1.out]
   go_wp2_with fail
   refine (l1In _ _ _ _).mono ?_
   rintro e w' ⟨rfl, rfl⟩
   rw [H2.out]
   go_wp2_with fail
   refine (l3Item _ hs _).mono ?_
   rintro e w' ⟨rfl, rfl⟩
   rw [H3.out]
   go_wp2_with fail
   refine (l1In _ _ _ _).mono ?_
   rintro e w' ⟨rfl, rfl⟩
   rw [H4.out]
   go_wp2_with fail
   refine (l1In _ _ _ _).mono ?_
   rintro e w' ⟨rfl, rfl⟩
   rw [HQ.out]
   go_wp2
   go_ret
   exact ⟨by rw [HO.out]; rfl, bl⟩
  ·have HQ := Lib.hid hq
   have HOL := Lib.hid (opB_level (level := level) HH.out hki (by exact hq))
   clear hki hq
   by_cases hm : level = 0
   ·subst hm
    have HO : Hid (opB dev seq stamp 2 item qty 0 undos = true) := by show opB _ _ _ _ _ _ _ _ = _; rw [HOL.out]; rfl
    go_enter Tryz.func86, Tryz.ntmps86
    go_wp2_with fail
    refine (l3Dev _ _).mono ?_
    rintro e w' ⟨rfl, rfl⟩
    rw [H0.out]
    go_wp2_with fail
    refine (l1In _ _ _ _).mono ?_
    rintro e w' ⟨rfl, rfl⟩
    rw [H1.out]
    go_wp2_with fail
    refine (l1In _ _ _ _).mono ?_
    rintro e w' ⟨rfl, rfl⟩
    rw [H2.out]
    go_wp2_with fail
    refine (l3Item _ hs _).mono ?_
    rintro e w' ⟨rfl, rfl⟩
    rw [H3.out]
    go_wp2_with fail
    refine (l1In _ _ _ _).mono ?_
    rintro e w' ⟨rfl, rfl⟩
    rw [H4.out]
    go_wp2_with fail
    refine (l1In _ _ _ _).mono ?_
    rintro e w' ⟨rfl, rfl⟩
    rw [HQ.out]
    go_wp2
    go_ret
    exact ⟨by rw [HO.out]; rfl, bl⟩
   ·have HO : Hid (opB dev seq stamp 2 item qty level undos = false) := by show opB _ _ _ _ _ _ _ _ = _; rw [HOL.out]; exact decide_eq_false hm
    have hm' : (level == 0) = false := by rw [beq_eq_false_iff_ne]; exact hm
    clear hm
    go_enter Tryz.func86, Tryz.ntmps86
    go_wp2_with fail
    refine (l3Dev _ _).mono ?_
    rintro e w' ⟨rfl, rfl⟩
    rw [H0.out]
    go_wp2_with fail
    refine (l1In _ _ _ _).mono ?_
    rintro e w' ⟨rfl, rfl⟩
    rw [H1.out]
    go_wp2_with fail
    refine (l1In _ _ _ _).mono ?_
    rintro e w' ⟨rfl, rfl⟩
    rw [H2.out]
    go_wp2_with fail
    refine (l3Item _ hs _).mono ?_
    rintro e w' ⟨rfl, rfl⟩
    rw [H3.out]
    go_wp2_with fail
    refine (l1In _ _ _ _).mono ?_
    rintro e w' ⟨rfl, rfl⟩
    rw [H4.out]
    go_wp2_with fail
    refine (l1In _ _ _ _).mono ?_
    rintro e w' ⟨rfl, rfl⟩
    rw [HQ.out]
    go_wp2
    go_ret
    exact ⟨by rw [HO.out]; rfl, bl⟩
 ·by_cases hq : qty = 0
  rotate_left
  ·have hqb : (qty == 0) = false := by rw [beq_eq_false_iff_ne]; exact hq
   have HO := Lib.hid (opB_qty (dev := dev) (seq := seq) (stamp := stamp) (item := item) (level := level) (undos := undos) (kind := 3) (decide_eq_false hq))
   clear hq hki
   go_enter Tryz.func86, Tryz.ntmps86
   go_wp2_with fail
   refine (l3Dev _ _).mono ?_
   rintro e w' ⟨rfl, rfl⟩
   rw [H0.out]
   go_wp2_with fail
   refine (l1In _ _ _ _).mono ?_
   rintro e w' ⟨rfl, rfl⟩
   rw [H1.out]
   go_wp2_with fail
   refine (l1In _ _ _ _).mono ?_
   rintro e w' ⟨rfl, rfl⟩
   rw [H2.out]
   go_wp2_with fail
   refine (l3Item _ hs _).mono ?_
   rintro e w' ⟨rfl, rfl⟩
   rw [H3.out]
   go_wp2_with fail
   refine (l1In _ _ _ _).mono ?_
   rintro e w' ⟨rfl, rfl⟩
   rw [H4.out]
   go_wp2
   go_ret
   exact ⟨by rw [HO.out]; rfl, bl⟩
  ·subst hq
   have HL : Hid (lB 3 level = (inB level 1 100 && decide (level % 2 = 0))) := l3_even
   have HOL := Lib.hid (opB_level (level := level) HH.out hki (show qB 3 0 = true from rfl))
   clear hki
   rcases hl : inB level 1 100 with _ | _
   ·have HO : Hid (opB dev seq stamp 3 item 0 level undos = false) := by show opB _ _ _ _ _ _ _ _ = _; rw [HOL.out, HL.out, hl]; rfl
    have HV := Lib.hid hl
    clear hl
    go_enter Tryz.func86, Tryz.ntmps86
    go_wp2_with fail
    refine (l3Dev _ _).mono ?_
    rintro e w' ⟨rfl, rfl⟩
    rw [H0.out]
    go_wp2_with fail
    refine (l1In _ _ _ _).mono ?_
    rintro e w' ⟨rfl, rfl⟩
    rw [H1.out]
    go_wp2_with fail
    refine (l1In _ _ _ _).mono ?_
    rintro e w' ⟨rfl, rfl⟩
    rw [H2.out]
    go_wp2_with fail
    refine (l3Item _ hs _).mono ?_
    rintro e w' ⟨rfl, rfl⟩
    rw [H3.out]
    go_wp2_with fail
    refine (l1In _ _ _ _).mono ?_
    rintro e w' ⟨rfl, rfl⟩
    rw [H4.out]
    go_wp2_with fail
    refine (l1In _ _ _ _).mono ?_
    rintro e w' ⟨rfl, rfl⟩
    rw [HV.out]
    go_wp2
    go_ret
    exact ⟨by rw [HO.out]; rfl, bl⟩
   ·obtain ⟨g1, g2⟩ := inB_iff.1 hl
    have HV := Lib.hid hl
    by_cases hm : level % 2 = 0
    ·have HO : Hid (opB dev seq stamp 3 item 0 level undos = true) := by show opB _ _ _ _ _ _ _ _ = _; rw [HOL.out, HL.out, hl, decide_eq_true hm]; rfl
     have hm' : (level % 2 == 0) = true := by rw [hm]; rfl
     clear hm hl
     go_enter Tryz.func86, Tryz.ntmps86
     go_wp2_with fail
     refine (l3Dev _ _).mono ?_
     rintro e w' ⟨rfl, rfl⟩
     rw [H0.out]
     go_wp2_with fail
     refine (l1In _ _ _ _).mono ?_
     rintro e w' ⟨rfl, rfl⟩
     rw [H1.out]
     go_wp2_with fail
     refine (l1In _ _ _ _).mono ?_
     rintro e w' ⟨rfl, rfl⟩
     rw [H2.out]
     go_wp2_with fail
     refine (l3Item _ hs _).mono ?_
     rintro e w' ⟨rfl, rfl⟩
     rw [H3.out]
     go_wp2_with fail
     refine (l1In _ _ _ _).mono ?_
     rintro e w' ⟨rfl, rfl⟩
     rw [H4.out]
     go_wp2_with fail
     refine (l1In _ _ _ _).mono ?_
     rintro e w' ⟨rfl, rfl⟩
     rw [HV.out]
     go_wp2
     go_ret
     exact ⟨by rw [HO.out]; rfl, bl⟩
    ·have HO : Hid (opB dev seq stamp 3 item 0 level undos = false) := by show opB _ _ _ _ _ _ _ _ = _; rw [HOL.out, HL.out, hl, decide_eq_false hm]; rfl
     have hm' : (level % 2 == 0) = false := by rw [beq_eq_false_iff_ne]; exact hm
     clear hm hl
     go_enter Tryz.func86, Tryz.ntmps86
     go_wp2_with fail
     refine (l3Dev _ _).mono ?_
     rintro e w' ⟨rfl, rfl⟩
     rw [H0.out]
     go_wp2_with fail
     refine (l1In _ _ _ _).mono ?_
     rintro e w' ⟨rfl, rfl⟩
     rw [H1.out]
     go_wp2_with fail
     refine (l1In _ _ _ _).mono ?_
     rintro e w' ⟨rfl, rfl⟩
     rw [H2.out]
     go_wp2_with fail
     refine (l3Item _ hs _).mono ?_
     rintro e w' ⟨rfl, rfl⟩
     rw [H3.out]
     go_wp2_with fail
     refine (l1In _ _ _ _).mono ?_
     rintro e w' ⟨rfl, rfl⟩
     rw [H4.out]
     go_wp2_with fail
     refine (l1In _ _ _ _).mono ?_
     rintro e w' ⟨rfl, rfl⟩
     rw [HV.out]
     go_wp2
     go_ret
     exact ⟨by rw [HO.out]; rfl, bl⟩
 ·by_cases hq : qty = 0
  rotate_left
  ·have hqb : (qty == 0) = false := by rw [beq_eq_false_iff_ne]; exact hq
   have HO := Lib.hid (opB_qty (dev := dev) (seq := seq) (stamp := stamp) (item := item) (level := level) (undos := undos) (kind := 4) (decide_eq_false hq))
   clear hq hki
   go_enter Tryz.func86, Tryz.ntmps86
   go_wp2_with fail
   refine (l3Dev _ _).mono ?_
   rintro e w' ⟨rfl, rfl⟩
   rw [H0.out]
   go_wp2_with fail
   refine (l1In _ _ _ _).mono ?_
   rintro e w' ⟨rfl, rfl⟩
   rw [H1.out]
   go_wp2_with fail
   refine (l1In _ _ _ _).mono ?_
   rintro e w' ⟨rfl, rfl⟩
   rw [H2.out]
   go_wp2_with fail
   refine (l3Item _ hs _).mono ?_
   rintro e w' ⟨rfl, rfl⟩
   rw [H3.out]
   go_wp2_with fail
   refine (l1In _ _ _ _).mono ?_
   rintro e w' ⟨rfl, rfl⟩
   rw [H4.out]
   go_wp2
   go_ret
   exact ⟨by rw [HO.out]; rfl, bl⟩
  ·subst hq
   have HOL := Lib.hid (opB_level (level := level) HH.out hki (show qB 4 0 = true from rfl))
   clear hki
   by_cases hm : level = 0
   ·subst hm
    have HO : Hid (opB dev seq stamp 4 item 0 0 undos = true) := by show opB _ _ _ _ _ _ _ _ = _; rw [HOL.out]; rfl
    go_enter Tryz.func86, Tryz.ntmps86
    go_wp2_with fail
    refine (l3Dev _ _).mono ?_
    rintro e w' ⟨rfl, rfl⟩
    rw [H0.out]
    go_wp2_with fail
    refine (l1In _ _ _ _).mono ?_
    rintro e w' ⟨rfl, rfl⟩
    rw [H1.out]
    go_wp2_with fail
    refine (l1In _ _ _ _).mono ?_
    rintro e w' ⟨rfl, rfl⟩
    rw [H2.out]
    go_wp2_with fail
    refine (l3Item _ hs _).mono ?_
    rintro e w' ⟨rfl, rfl⟩
    rw [H3.out]
    go_wp2_with fail
    refine (l1In _ _ _ _).mono ?_
    rintro e w' ⟨rfl, rfl⟩
    rw [H4.out]
    go_wp2
    go_ret
    exact ⟨by rw [HO.out]; rfl, bl⟩
   ·have HO : Hid (opB dev seq stamp 4 item 0 level undos = false) := by show opB _ _ _ _ _ _ _ _ = _; rw [HOL.out]; exact decide_eq_false hm
    have hm' : (level == 0) = false := by rw [beq_eq_false_iff_ne]; exact hm
    clear hm
    go_enter Tryz.func86, Tryz.ntmps86
    go_wp2_with fail
    refine (l3Dev _ _).mono ?_
    rintro e w' ⟨rfl, rfl⟩
    rw [H0.out]
    go_wp2_with fail
    refine (l1In _ _ _ _).mono ?_
    rintro e w' ⟨rfl, rfl⟩
    rw [H1.out]
    go_wp2_with fail
    refine (l1In _ _ _ _).mono ?_
    rintro e w' ⟨rfl, rfl⟩
    rw [H2.out]
    go_wp2_with fail
    refine (l3Item _ hs _).mono ?_
    rintro e w' ⟨rfl, rfl⟩
    rw [H3.out]
    go_wp2_with fail
    refine (l1In _ _ _ _).mono ?_
    rintro e w' ⟨rfl, rfl⟩
    rw [H4.out]
    go_wp2
    go_ret
    exact ⟨by rw [HO.out]; rfl, bl⟩
 ·by_cases hq : qty = 0
  rotate_left
  ·have hqb : (qty == 0) = false := by rw [beq_eq_false_iff_ne]; exact hq
   have HO := Lib.hid (opB_qty (dev := dev) (seq := seq) (stamp := stamp) (item := item) (level := level) (undos := undos) (kind := 5) (decide_eq_false hq))
   clear hq hki
   go_enter Tryz.func86, Tryz.ntmps86
   go_wp2_with fail
   refine (l3Dev _ _).mono ?_
   rintro e w' ⟨rfl, rfl⟩
   rw [H0.out]
   go_wp2_with fail
   refine (l1In _ _ _ _).mono ?_
   rintro e w' ⟨rfl, rfl⟩
   rw [H1.out]
   go_wp2_with fail
   refine (l1In _ _ _ _).mono ?_
   rintro e w' ⟨rfl, rfl⟩
   rw [H2.out]
   go_wp2_with fail
   refine (l3Item _ hs _).mono ?_
   rintro e w' ⟨rfl, rfl⟩
   rw [H3.out]
   go_wp2_with fail
   refine (l1In _ _ _ _).mono ?_
   rintro e w' ⟨rfl, rfl⟩
   rw [H4.out]
   go_wp2
   go_ret
   exact ⟨by rw [HO.out]; rfl, bl⟩
  ·subst hq
   have HOL := Lib.hid (opB_level (level := level) HH.out hki (show qB 5 0 = true from rfl))
   clear hki
   by_cases hm : level = 0
   ·subst hm
    have HO : Hid (opB dev seq stamp 5 item 0 0 undos = true) := by show opB _ _ _ _ _ _ _ _ = _; rw [HOL.out]; rfl
    go_enter Tryz.func86, Tryz.ntmps86
    go_wp2_with fail
    refine (l3Dev _ _).mono ?_
    rintro e w' ⟨rfl, rfl⟩
    rw [H0.out]
    go_wp2_with fail
    refine (l1In _ _ _ _).mono ?_
    rintro e w' ⟨rfl, rfl⟩
    rw [H1.out]
    go_wp2_with fail
    refine (l1In _ _ _ _).mono ?_
    rintro e w' ⟨rfl, rfl⟩
    rw [H2.out]
    go_wp2_with fail
    refine (l3Item _ hs _).mono ?_
    rintro e w' ⟨rfl, rfl⟩
    rw [H3.out]
    go_wp2_with fail
    refine (l1In _ _ _ _).mono ?_
    rintro e w' ⟨rfl, rfl⟩
    rw [H4.out]
    go_wp2
    go_ret
    exact ⟨by rw [HO.out]; rfl, bl⟩
   ·have HO : Hid (opB dev seq stamp 5 item 0 level undos = false) := by show opB _ _ _ _ _ _ _ _ = _; rw [HOL.out]; exact decide_eq_false hm
    have hm' : (level == 0) = false := by rw [beq_eq_false_iff_ne]; exact hm
    clear hm
    go_enter Tryz.func86, Tryz.ntmps86
    go_wp2_with fail
    refine (l3Dev _ _).mono ?_
    rintro e w' ⟨rfl, rfl⟩
    rw [H0.out]
    go_wp2_with fail
    refine (l1In _ _ _ _).mono ?_
    rintro e w' ⟨rfl, rfl⟩
    rw [H1.out]
    go_wp2_with fail
    refine (l1In _ _ _ _).mono ?_
    rintro e w' ⟨rfl, rfl⟩
    rw [H2.out]
    go_wp2_with fail
    refine (l3Item _ hs _).mono ?_
    rintro e w' ⟨rfl, rfl⟩
    rw [H3.out]
    go_wp2_with fail
    refine (l1In _ _ _ _).mono ?_
    rintro e w' ⟨rfl, rfl⟩
    rw [H4.out]
    go_wp2
    go_ret
    exact ⟨by rw [HO.out]; rfl, bl⟩
def setOp (w : World) (b : Nat) (v0 v1 v2 v3 v4 v5 v6 v7 : Value) : World := ((((((((w.setCell ⟨b, 0, none⟩ v0).setCell ⟨b, 1, none⟩ v1).setCell ⟨b, 2, none⟩ v2).setCell ⟨b, 3, none⟩ v3).setCell ⟨b, 4, none⟩ v4).setCell ⟨b, 5, none⟩ v5).setCell ⟨b, 6, none⟩ v6).setCell ⟨b, 7, none⟩ v7)
theorem setOp_same {w : World} {b : Nat} {c0 c1 c2 c3 c4 c5 c6 c7 : Value} {T : TypeId} (v0 v1 v2 v3 v4 v5 v6 v7 : Value) (h : w.heap[b]? = some (.cells #[c0, c1, c2, c3, c4, c5, c6, c7] T (0, 0))) : (setOp w b v0 v1 v2 v3 v4 v5 v6 v7).heap[b]? = some (.cells #[v0, v1, v2, v3, v4, v5, v6, v7] T (0, 0)) := by
 have h0 : (w.setCell ⟨b, 0, none⟩ v0).heap[b]? = some (.cells #[v0, c1, c2, c3, c4, c5, c6, c7] T (0, 0)) := heap_setCell_same _ _ _ _ _ _ h
 have h1 : ((w.setCell ⟨b, 0, none⟩ v0).setCell ⟨b, 1, none⟩ v1).heap[b]? = some (.cells #[v0, v1, c2, c3, c4, c5, c6, c7] T (0, 0)) := heap_setCell_same _ _ _ _ _ _ h0
 have h2 : (((w.setCell ⟨b, 0, none⟩ v0).setCell ⟨b, 1, none⟩ v1).setCell ⟨b, 2, none⟩ v2).heap[b]? = some (.cells #[v0, v1, v2, c3, c4, c5, c6, c7] T (0, 0)) := heap_setCell_same _ _ _ _ _ _ h1
 have h3 : ((((w.setCell ⟨b, 0, none⟩ v0).setCell ⟨b, 1, none⟩ v1).setCell ⟨b, 2, none⟩ v2).setCell ⟨b, 3, none⟩ v3).heap[b]? = some (.cells #[v0, v1, v2, v3, c4, c5, c6, c7] T (0, 0)) := heap_setCell_same _ _ _ _ _ _ h2
 have h4 : (((((w.setCell ⟨b, 0, none⟩ v0).setCell ⟨b, 1, none⟩ v1).setCell ⟨b, 2, none⟩ v2).setCell ⟨b, 3, none⟩ v3).setCell ⟨b, 4, none⟩ v4).heap[b]? = some (.cells #[v0, v1, v2, v3, v4, c5, c6, c7] T (0, 0)) := heap_setCell_same _ _ _ _ _ _ h3
 have h5 : ((((((w.setCell ⟨b, 0, none⟩ v0).setCell ⟨b, 1, none⟩ v1).setCell ⟨b, 2, none⟩ v2).setCell ⟨b, 3, none⟩ v3).setCell ⟨b, 4, none⟩ v4).setCell ⟨b, 5, none⟩ v5).heap[b]? = some (.cells #[v0, v1, v2, v3, v4, v5, c6, c7] T (0, 0)) := heap_setCell_same _ _ _ _ _ _ h4
 have h6 : (((((((w.setCell ⟨b, 0, none⟩ v0).setCell ⟨b, 1, none⟩ v1).setCell ⟨b, 2, none⟩ v2).setCell ⟨b, 3, none⟩ v3).setCell ⟨b, 4, none⟩ v4).setCell ⟨b, 5, none⟩ v5).setCell ⟨b, 6, none⟩ v6).heap[b]? = some (.cells #[v0, v1, v2, v3, v4, v5, v6, c7] T (0, 0)) := heap_setCell_same _ _ _ _ _ _ h5
 have h7 : ((((((((w.setCell ⟨b, 0, none⟩ v0).setCell ⟨b, 1, none⟩ v1).setCell ⟨b, 2, none⟩ v2).setCell ⟨b, 3, none⟩ v3).setCell ⟨b, 4, none⟩ v4).setCell ⟨b, 5, none⟩ v5).setCell ⟨b, 6, none⟩ v6).setCell ⟨b, 7, none⟩ v7).heap[b]? = some (.cells #[v0, v1, v2, v3, v4, v5, v6, v7] T (0, 0)) := heap_setCell_same _ _ _ _ _ _ h6
 exact h7
theorem setOp_below {B : Nat} {w0 w : World} {b : Nat} (v0 v1 v2 v3 v4 v5 v6 v7 : Value) (h : Below B w0 w) (hb : B ≤ b) : Below B w0 (setOp w b v0 v1 v2 v3 v4 v5 v6 v7) :=
 ((((((((h.setCell (p := ⟨b, 0, none⟩) hb v0).setCell (p := ⟨b, 1, none⟩) hb v1).setCell (p := ⟨b, 2, none⟩) hb v2).setCell (p := ⟨b, 3, none⟩) hb v3).setCell (p := ⟨b, 4, none⟩) hb v4).setCell (p := ⟨b, 5, none⟩) hb v5).setCell (p := ⟨b, 6, none⟩) hb v6).setCell (p := ⟨b, 7, none⟩) hb v7)
theorem op_cells {w : World} {b : Nat} {v0 v1 v2 v3 v4 v5 v6 v7 : Value} {T : TypeId} {fr : Nat × Nat} (h : w.heap[b]? = some (.cells #[v0, v1, v2, v3, v4, v5, v6, v7] T fr)) : w.cell? ⟨b, 0, none⟩ = some v0 ∧ w.cell? ⟨b, 1, none⟩ = some v1 ∧ w.cell? ⟨b, 2, none⟩ = some v2 ∧ w.cell? ⟨b, 3, none⟩ = some v3 ∧ w.cell? ⟨b, 4, none⟩ = some v4 ∧ w.cell? ⟨b, 5, none⟩ = some v5 ∧ w.cell? ⟨b, 6, none⟩ = some v6 ∧ w.cell? ⟨b, 7, none⟩ = some v7 :=
 ⟨cell_of_row _ _ _ _ _ _ h, cell_of_row _ _ _ _ _ _ h, cell_of_row _ _ _ _ _ _ h, cell_of_row _ _ _ _ _ _ h, cell_of_row _ _ _ _ _ _ h, cell_of_row _ _ _ _ _ _ h, cell_of_row _ _ _ _ _ _ h, cell_of_row _ _ _ _ _ _ h⟩
theorem op_frozen {w : World} {b : Nat} {cs : Array Value} {T : TypeId} (h : w.heap[b]? = some (.cells cs T (0, 0))) : w.frozen? ⟨b, 0, none⟩ = false ∧ w.frozen? ⟨b, 1, none⟩ = false ∧ w.frozen? ⟨b, 2, none⟩ = false ∧ w.frozen? ⟨b, 3, none⟩ = false ∧ w.frozen? ⟨b, 4, none⟩ = false ∧ w.frozen? ⟨b, 5, none⟩ = false ∧ w.frozen? ⟨b, 6, none⟩ = false ∧ w.frozen? ⟨b, 7, none⟩ = false :=
 ⟨frozen_of_row _ _ _ _ _ h, frozen_of_row _ _ _ _ _ h, frozen_of_row _ _ _ _ _ h, frozen_of_row _ _ _ _ _ h, frozen_of_row _ _ _ _ _ h, frozen_of_row _ _ _ _ _ h, frozen_of_row _ _ _ _ _ h, frozen_of_row _ _ _ _ _ h⟩
theorem grownSet {w w1 : World} {g b i : Nat} {v : Value} (h : w.grownBy w1 (some g)) (hb : w.heap.size ≤ b) : w.grownBy (w1.setCell ⟨b, i, none⟩ v) (some g) :=
 ⟨h.os, h.tape, h.output, Nat.le_trans h.size (by simp [World.setCell]), fun k hk hne => (heap_setCell_other _ _ _ _ (by show k ≠ b; omega)).trans (h.block k hk hne)⟩
end Go.Proofs.YtgagchlcafdiaaaGreat
