/- The walks of spec.DrawReadText and of the law FnTexts. -/
import Derived.Test.YtjcfekljdkaaiaaDoorDrawBase
import Derived.Test.YtjcfekljdkaaiaaDoorTextLawW
import Derived.Test.YtjcfekljdkaaiaaDoorBackMath
namespace Go.Proofs.YtjcfekljdkaaiaaDoor
open Go.RowKit

set_option maxRecDepth 100000 in
theorem drawReadText (w : World) (B : Nat) (a : Option Addr) (len cap : Nat) (hB : B ≤ w.heap.size) (h : Src w B a len) :
    Calls Tryd.prog 19 #[.slice a len cap] w (DrawsStr 40 w) := by
  have h' := Lib.hid h
  clear h
  go_enter Tryd.func19, Tryd.ntmps19
  go_wp2_with fail
  refine (l1Open w w.heap.size a len cap (Nat.le_refl _) ?_).mono ?_
  · exact ⟨h'.out.1, fun i hi => by obtain ⟨b, off, z, e, hb, r⟩ := h'.out.2 i hi; exact ⟨b, off, z, e, by omega, r⟩⟩
  rintro e w1 ⟨rfl, hg1, hr1⟩
  go_wp2_with fail
  refine (bytes w1 w.heap.size w.heap.size a len cap hr1 9 (by omega)).mono ?_
  rintro e w2 ⟨s, hs, rfl, hg2, hr2⟩
  go_wp2_with fail
  refine (specText s (by omega) w2).mono ?_
  rintro e w3 ⟨rfl, hb3⟩
  have hr3 : Rd w3 w.heap.size w.heap.size a len cap := hr2.kept fun k hk => hb3.block k (by have := hr2.lt; omega)
  have hb : Below w.heap.size w w3 := ((below_none hg1 (Nat.le_refl _)).trans (below_of hg2 (Nat.le_refl _) hg1.size)).trans (hb3.mono (Nat.le_trans hg1.size hg2.size))
  have hz : (textBytes s).size ≤ 20 := by
    unfold textBytes
    rw [ByteArray.size_append]
    have := (text_fit (s := s) (by omega)).2
    omega
  clear hg1 hr1 hg2 hr2 hb3
  go_wp2_with fail
  refine (once w3 w.heap.size w.heap.size a len cap hr3 2 (by omega) (by omega)).mono ?_
  rintro e w4 ⟨v, rfl, hg4, hr4⟩
  have hb4 : Below w.heap.size w w4 := hb.trans (below_of hg4 (Nat.le_refl _) hb.size)
  clear hr3 hg4
  cases v
  · go_wp2_with fail
    refine (bytes w4 w.heap.size w.heap.size a len cap hr4 3 (by omega)).mono ?_
    rintro e w5 ⟨t, ht, rfl, hg5, hr5⟩
    go_wp2
    go_ret
    exact ⟨_, by rw [ByteArray.size_append]; omega, rfl, hb4.trans (below_of hg5 (Nat.le_refl _) hb4.size)⟩
  · go_wp2_with fail
    refine (hurt w4 w.heap.size w.heap.size a len cap hr4 _ (by omega)).mono ?_
    rintro e w5 ⟨t, ht, rfl, hg5, hr5⟩
    go_wp2
    go_ret
    exact ⟨t, by omega, rfl, hb4.trans (below_of hg5 (Nat.le_refl _) hb4.size)⟩
set_option maxRecDepth 100000 in
theorem bigNo (a : Option Addr) (len cap : Nat) (h : len ≤ 1048576) (w : World) :
    Calls Tryd.prog 10 #[.slice a len cap] w fun e w' => e = .returned (.bool false) ∧ w = w' := by
  have hd : decide ((1048576 : Int) < (len : Int)) = false := decide_eq_false (by omega)
  go_enter Tryd.func10, Tryd.ntmps10
  go_wp2
  go_ret
  exact ⟨rfl, rfl⟩
theorem bigYes (a : Option Addr) (len cap : Nat) (h : ¬ len ≤ 1048576) (w : World) :
    Calls Tryd.prog 10 #[.slice a len cap] w fun e w' => e = .returned (.bool true) ∧ w = w' := by
  have hd : decide ((1048576 : Int) < (len : Int)) = true := decide_eq_true (by omega)
  go_enter Tryd.func10, Tryd.ntmps10
  go_wp2
  go_ret
  exact ⟨rfl, rfl⟩

set_option maxRecDepth 100000 in
theorem readTextYes (s : ByteArray) (w : World) (u : TypeId) (x : Value) (hs : s.size ≤ 1048576) (hE : Sent w u x) (h : TxtOk s) :
    Calls Tryd.prog 20 #[.string s] w fun e w' => e = .returned (.tuple #[.string (txt s), .int .i64 (txtEnd s : Int), .bool true]) ∧ Below w.heap.size w w' :=
  (implReadText s w u x hs hE).mono fun e w' ⟨hb, hc⟩ => by
    obtain ⟨_, rfl⟩ | ⟨hno, _⟩ := hc
    · exact ⟨rfl, hb⟩
    · exact absurd h hno
theorem readTextNo (s : ByteArray) (w : World) (u : TypeId) (x : Value) (hs : s.size ≤ 1048576) (hE : Sent w u x) (h : ¬ TxtOk s) :
    Calls Tryd.prog 20 #[.string s] w fun e w' => e = .returned (.tuple #[.string ⟨#[]⟩, .int .i64 0, .bool false]) ∧ Below w.heap.size w w' :=
  (implReadText s w u x hs hE).mono fun e w' ⟨hb, hc⟩ => by
    obtain ⟨hno, _⟩ | ⟨_, rfl⟩ := hc
    · exact absurd hno h
    · exact ⟨rfl, hb⟩
theorem specTextYes (s : ByteArray) (w : World) (hs : s.size ≤ 1048576) (h : TxtOk s) :
    Calls Tryd.prog 21 #[.string s] w fun e w' => e = .returned (.tuple #[.string (txt s), .int .i64 (txtEnd s : Int), .bool true]) ∧ Below w.heap.size w w' :=
  (specReadText s w hs).mono fun e w' ⟨hb, hc⟩ => by
    obtain ⟨_, rfl⟩ | ⟨hno, _⟩ := hc
    · exact ⟨rfl, hb⟩
    · exact absurd h hno
theorem specTextNot (s : ByteArray) (w : World) (hs : s.size ≤ 1048576) (h : ¬ TxtOk s) :
    Calls Tryd.prog 21 #[.string s] w fun e w' => e = .returned (.tuple #[.string ⟨#[]⟩, .int .i64 0, .bool false]) ∧ Below w.heap.size w w' :=
  (specReadText s w hs).mono fun e w' ⟨hb, hc⟩ => by
    obtain ⟨hno, _⟩ | ⟨_, rfl⟩ := hc
    · exact absurd hno h
    · exact ⟨rfl, hb⟩
end Go.Proofs.YtjcfekljdkaaiaaDoor
