/- Readings of chapter 3: a number, a text, an operation at a place; and the walk of impl's wireReader.op. -/
import Derived.Test.YtialoobnjfbboaaDoorWordW
import Derived.Test.YtialoobnjfbboaaDoorOpSpecW
import Derived.Handy
namespace Go.Proofs.YtialoobnjfbboaaDoor
open Go.RowKit

/-- At place p of s stands the number n, up to place q. -/
structure NumIs (s : ByteArray) (p n q : Nat) : Prop where
  ok : (rd (s.data.toList.drop p)).2.2 = true
  val : n = (rd (s.data.toList.drop p)).1
  at' : q = p + (rd (s.data.toList.drop p)).2.1
/-- At place p of s stands the text t, up to place q. -/
structure TxtIs (s : ByteArray) (p : Nat) (t : ByteArray) (q : Nat) : Prop where
  ok : TxtOk (cut s p)
  val : t = txt (cut s p)
  at' : q = p + txtEnd (cut s p)
theorem NumIs.le {s : ByteArray} {p n q : Nat} (h : NumIs s p n q) (hp : p ≤ s.size) : q ≤ s.size := by
  have := rd_le (s.data.toList.drop p)
  rw [List.length_drop, ← Lib.size_eq] at this
  rw [h.at']
  omega
theorem TxtIs.le {s : ByteArray} {p : Nat} {t : ByteArray} {q : Nat} (h : TxtIs s p t q) (hp : p ≤ s.size) : q ≤ s.size := by
  have := h.ok.2.2
  rw [cut_size] at this
  rw [h.at']
  unfold txtEnd
  omega
theorem TxtIs.size {s : ByteArray} {p : Nat} {t : ByteArray} {q : Nat} (h : TxtIs s p t q) : t.size ≤ 4000 := by
  have := h.ok.2.1
  rw [h.val]
  unfold txt txtEnd
  rw [ByteArray.size_extract]
  omega
theorem NumIs.eq {s : ByteArray} {p n q n' q' : Nat} (h : NumIs s p n q) (h' : NumIs s p n' q') : n' = n ∧ q' = q := ⟨h'.val.trans h.val.symm, h'.at'.trans h.at'.symm⟩
theorem TxtIs.eq {s : ByteArray} {p : Nat} {t t' : ByteArray} {q q' : Nat} (h : TxtIs s p t q) (h' : TxtIs s p t' q') : t' = t ∧ q' = q := ⟨h'.val.trans h.val.symm, h'.at'.trans h.at'.symm⟩
def NoNum (s : ByteArray) (p : Nat) : Prop := ∀ n q, ¬ NumIs s p n q
def NoTxt (s : ByteArray) (p : Nat) : Prop := ∀ t q, ¬ TxtIs s p t q
theorem num_or (s : ByteArray) (p : Nat) : (∃ n q, NumIs s p n q) ∨ NoNum s p := by
  rcases h : (rd (s.data.toList.drop p)).2.2 with _ | _
  · exact .inr fun n q hq => by rw [hq.ok] at h; cases h
  · exact .inl ⟨_, _, h, rfl, rfl⟩
theorem txt_or (s : ByteArray) (p : Nat) : (∃ t q, TxtIs s p t q) ∨ NoTxt s p := by
  by_cases h : TxtOk (cut s p)
  · exact .inl ⟨_, _, h, rfl, rfl⟩
  · exact .inr fun t q hq => h hq.ok
/-- What a call of the reader that reads a number leaves. -/
def NumPostQ (s : ByteArray) (p : Nat) (u : TypeId) (x : Value) (w : World) (g : Nat) (e : Ending) (w' : World) : Prop :=
  w.grownBy w' (some g) ∧ ((∃ n q : Nat, NumIs s p n q ∧ e = .returned (.int .i64 (n : Int)) ∧ RdrAt w' g s q) ∨ (NoNum s p ∧ e = Thrown u x))
def TxtPostQ (s : ByteArray) (p : Nat) (u : TypeId) (x : Value) (w : World) (g : Nat) (e : Ending) (w' : World) : Prop :=
  w.grownBy w' (some g) ∧ ((∃ (t : ByteArray) (q : Nat), TxtIs s p t q ∧ e = .returned (.string t) ∧ RdrAt w' g s q) ∨ (NoTxt s p ∧ e = Thrown u x))
theorem numberQ (w : World) (g : Nat) (s : ByteArray) (p : Nat) (u : TypeId) (x : Value) (hs : s.size ≤ 1048576) (hp : p ≤ s.size) (h : RdrAt w g s p) (hE : Sent w u x) (hg : 0 < g) :
    Calls Tryd.prog 37 #[.pointer (some ⟨g, 0, none⟩)] w (NumPostQ s p u x w g) :=
  (numberP w g s p u x hs hp h hE hg).mono fun e w' ⟨hg', hq⟩ => ⟨hg', by
    rcases hq with ⟨he, hr, ht⟩ | ⟨he, hx⟩
    · exact .inl ⟨_, _, ⟨ht, rfl, rfl⟩, he, hr⟩
    · exact .inr ⟨(fun n q hq => by have := hq.ok; rw [hx] at this; cases this), he⟩⟩
theorem wordQ (w : World) (g : Nat) (s : ByteArray) (p : Nat) (u : TypeId) (x : Value) (hs : s.size ≤ 1048576) (hp : p ≤ s.size) (h : RdrAt w g s p) (hE : Sent w u x) (hg : 0 < g) :
    Calls Tryd.prog 38 #[.pointer (some ⟨g, 0, none⟩)] w (TxtPostQ s p u x w g) :=
  (wordP w g s p u x hs hp h hE hg).mono fun e w' ⟨hg', hq⟩ => ⟨hg', by
    rcases hq with ⟨ht, he, hr⟩ | ⟨he, hx⟩
    · exact .inl ⟨_, _, ⟨ht, rfl, rfl⟩, he, hr⟩
    · exact .inr ⟨fun t q hq => hx hq.ok, he⟩⟩
/-- At place p of s stands a valid operation, up to place q. -/
def OpIs (s : ByteArray) (p : Nat) (dev seq stamp kind : Int) (item : ByteArray) (qty level undos : Int) (q : Nat) : Prop :=
  ∃ n0 q1 n1 q2 n2 q3 n3 q4 q5 n5 q6 n6 q7 n7 : Nat, NumIs s p n0 q1 ∧ NumIs s q1 n1 q2 ∧ NumIs s q2 n2 q3 ∧ NumIs s q3 n3 q4 ∧ TxtIs s q4 item q5 ∧ NumIs s q5 n5 q6 ∧ NumIs s q6 n6 q7 ∧ NumIs s q7 n7 q ∧
    dev = n0 ∧ seq = n1 ∧ stamp = n2 ∧ kind = n3 ∧ qty = n5 ∧ level = n6 ∧ undos = n7 ∧ opB dev seq stamp kind item qty level undos = true
def NoOp (s : ByteArray) (p : Nat) : Prop := ∀ dev seq stamp kind item qty level undos q, ¬ OpIs s p dev seq stamp kind item qty level undos q

theorem noOp0 {s : ByteArray} {p : Nat}  (hf : NoNum s p) : NoOp s p := by
  rintro dev seq stamp kind item qty level undos q ⟨m0, r1, m1, r2, m2, r3, m3, r4, r5, m5, r6, m6, r7, m7, g0, g1, g2, g3, g4, g5, g6, g7, e0, e1, e2, e3, e5, e6, e7, hop⟩
  exact hf _ _ g0
theorem noOp1 {s : ByteArray} {p n0 q1 : Nat} (h0 : NumIs s p n0 q1) (hf : NoNum s q1) : NoOp s p := by
  rintro dev seq stamp kind item qty level undos q ⟨m0, r1, m1, r2, m2, r3, m3, r4, r5, m5, r6, m6, r7, m7, g0, g1, g2, g3, g4, g5, g6, g7, e0, e1, e2, e3, e5, e6, e7, hop⟩
  obtain ⟨rfl, rfl⟩ := h0.eq g0
  exact hf _ _ g1
theorem noOp2 {s : ByteArray} {p n0 q1 n1 q2 : Nat} (h0 : NumIs s p n0 q1) (h1 : NumIs s q1 n1 q2) (hf : NoNum s q2) : NoOp s p := by
  rintro dev seq stamp kind item qty level undos q ⟨m0, r1, m1, r2, m2, r3, m3, r4, r5, m5, r6, m6, r7, m7, g0, g1, g2, g3, g4, g5, g6, g7, e0, e1, e2, e3, e5, e6, e7, hop⟩
  obtain ⟨rfl, rfl⟩ := h0.eq g0
  obtain ⟨rfl, rfl⟩ := h1.eq g1
  exact hf _ _ g2
theorem noOp3 {s : ByteArray} {p n0 q1 n1 q2 n2 q3 : Nat} (h0 : NumIs s p n0 q1) (h1 : NumIs s q1 n1 q2) (h2 : NumIs s q2 n2 q3) (hf : NoNum s q3) : NoOp s p := by
  rintro dev seq stamp kind item qty level undos q ⟨m0, r1, m1, r2, m2, r3, m3, r4, r5, m5, r6, m6, r7, m7, g0, g1, g2, g3, g4, g5, g6, g7, e0, e1, e2, e3, e5, e6, e7, hop⟩
  obtain ⟨rfl, rfl⟩ := h0.eq g0
  obtain ⟨rfl, rfl⟩ := h1.eq g1
  obtain ⟨rfl, rfl⟩ := h2.eq g2
  exact hf _ _ g3
theorem noOp4 {s : ByteArray} {p n0 q1 n1 q2 n2 q3 n3 q4 : Nat} (h0 : NumIs s p n0 q1) (h1 : NumIs s q1 n1 q2) (h2 : NumIs s q2 n2 q3) (h3 : NumIs s q3 n3 q4) (hf : NoTxt s q4) : NoOp s p := by
  rintro dev seq stamp kind item qty level undos q ⟨m0, r1, m1, r2, m2, r3, m3, r4, r5, m5, r6, m6, r7, m7, g0, g1, g2, g3, g4, g5, g6, g7, e0, e1, e2, e3, e5, e6, e7, hop⟩
  obtain ⟨rfl, rfl⟩ := h0.eq g0
  obtain ⟨rfl, rfl⟩ := h1.eq g1
  obtain ⟨rfl, rfl⟩ := h2.eq g2
  obtain ⟨rfl, rfl⟩ := h3.eq g3
  exact hf _ _ g4
theorem noOp5 {s : ByteArray} {p n0 q1 n1 q2 n2 q3 n3 q4 : Nat} {t : ByteArray} {q5 : Nat} (h0 : NumIs s p n0 q1) (h1 : NumIs s q1 n1 q2) (h2 : NumIs s q2 n2 q3) (h3 : NumIs s q3 n3 q4) (h4 : TxtIs s q4 t q5) (hf : NoNum s q5) : NoOp s p := by
  rintro dev seq stamp kind item qty level undos q ⟨m0, r1, m1, r2, m2, r3, m3, r4, r5, m5, r6, m6, r7, m7, g0, g1, g2, g3, g4, g5, g6, g7, e0, e1, e2, e3, e5, e6, e7, hop⟩
  obtain ⟨rfl, rfl⟩ := h0.eq g0
  obtain ⟨rfl, rfl⟩ := h1.eq g1
  obtain ⟨rfl, rfl⟩ := h2.eq g2
  obtain ⟨rfl, rfl⟩ := h3.eq g3
  obtain ⟨rfl, rfl⟩ := h4.eq g4
  exact hf _ _ g5
theorem noOp6 {s : ByteArray} {p n0 q1 n1 q2 n2 q3 n3 q4 : Nat} {t : ByteArray} {q5 n5 q6 : Nat} (h0 : NumIs s p n0 q1) (h1 : NumIs s q1 n1 q2) (h2 : NumIs s q2 n2 q3) (h3 : NumIs s q3 n3 q4) (h4 : TxtIs s q4 t q5) (h5 : NumIs s q5 n5 q6) (hf : NoNum s q6) : NoOp s p := by
  rintro dev seq stamp kind item qty level undos q ⟨m0, r1, m1, r2, m2, r3, m3, r4, r5, m5, r6, m6, r7, m7, g0, g1, g2, g3, g4, g5, g6, g7, e0, e1, e2, e3, e5, e6, e7, hop⟩
  obtain ⟨rfl, rfl⟩ := h0.eq g0
  obtain ⟨rfl, rfl⟩ := h1.eq g1
  obtain ⟨rfl, rfl⟩ := h2.eq g2
  obtain ⟨rfl, rfl⟩ := h3.eq g3
  obtain ⟨rfl, rfl⟩ := h4.eq g4
  obtain ⟨rfl, rfl⟩ := h5.eq g5
  exact hf _ _ g6
theorem noOp7 {s : ByteArray} {p n0 q1 n1 q2 n2 q3 n3 q4 : Nat} {t : ByteArray} {q5 n5 q6 n6 q7 : Nat} (h0 : NumIs s p n0 q1) (h1 : NumIs s q1 n1 q2) (h2 : NumIs s q2 n2 q3) (h3 : NumIs s q3 n3 q4) (h4 : TxtIs s q4 t q5) (h5 : NumIs s q5 n5 q6) (h6 : NumIs s q6 n6 q7) (hf : NoNum s q7) : NoOp s p := by
  rintro dev seq stamp kind item qty level undos q ⟨m0, r1, m1, r2, m2, r3, m3, r4, r5, m5, r6, m6, r7, m7, g0, g1, g2, g3, g4, g5, g6, g7, e0, e1, e2, e3, e5, e6, e7, hop⟩
  obtain ⟨rfl, rfl⟩ := h0.eq g0
  obtain ⟨rfl, rfl⟩ := h1.eq g1
  obtain ⟨rfl, rfl⟩ := h2.eq g2
  obtain ⟨rfl, rfl⟩ := h3.eq g3
  obtain ⟨rfl, rfl⟩ := h4.eq g4
  obtain ⟨rfl, rfl⟩ := h5.eq g5
  obtain ⟨rfl, rfl⟩ := h6.eq g6
  exact hf _ _ g7
theorem noOp8 {s : ByteArray} {p n0 q1 n1 q2 n2 q3 n3 q4 : Nat} {t : ByteArray} {q5 n5 q6 n6 q7 n7 q8 : Nat} (h0 : NumIs s p n0 q1) (h1 : NumIs s q1 n1 q2) (h2 : NumIs s q2 n2 q3) (h3 : NumIs s q3 n3 q4) (h4 : TxtIs s q4 t q5) (h5 : NumIs s q5 n5 q6) (h6 : NumIs s q6 n6 q7) (h7 : NumIs s q7 n7 q8) (hf : opB n0 n1 n2 n3 t n5 n6 n7 = false) : NoOp s p := by
  rintro dev seq stamp kind item qty level undos q ⟨m0, r1, m1, r2, m2, r3, m3, r4, r5, m5, r6, m6, r7, m7, g0, g1, g2, g3, g4, g5, g6, g7, e0, e1, e2, e3, e5, e6, e7, hop⟩
  obtain ⟨rfl, rfl⟩ := h0.eq g0
  obtain ⟨rfl, rfl⟩ := h1.eq g1
  obtain ⟨rfl, rfl⟩ := h2.eq g2
  obtain ⟨rfl, rfl⟩ := h3.eq g3
  obtain ⟨rfl, rfl⟩ := h4.eq g4
  obtain ⟨rfl, rfl⟩ := h5.eq g5
  obtain ⟨rfl, rfl⟩ := h6.eq g6
  obtain ⟨rfl, rfl⟩ := h7.eq g7
  subst e0 e1 e2 e3 e5 e6 e7
  rw [hf] at hop
  cases hop
theorem opIs_mk {s : ByteArray} {p n0 q1 n1 q2 n2 q3 n3 q4 : Nat} {t : ByteArray} {q5 n5 q6 n6 q7 n7 q8 : Nat} (h0 : NumIs s p n0 q1) (h1 : NumIs s q1 n1 q2) (h2 : NumIs s q2 n2 q3) (h3 : NumIs s q3 n3 q4) (h4 : TxtIs s q4 t q5) (h5 : NumIs s q5 n5 q6) (h6 : NumIs s q6 n6 q7) (h7 : NumIs s q7 n7 q8) (hf : opB n0 n1 n2 n3 t n5 n6 n7 = true) : OpIs s p n0 n1 n2 n3 t n5 n6 n7 q8 :=
  ⟨n0, q1, n1, q2, n2, q3, n3, q4, q5, n5, q6, n6, q7, n7, h0, h1, h2, h3, h4, h5, h6, h7, rfl, rfl, rfl, rfl, rfl, rfl, rfl, hf⟩

/-- What a call of the reader that reads an operation leaves. -/
def OpPostQ (s : ByteArray) (p : Nat) (u : TypeId) (x : Value) (w : World) (g : Nat) (e : Ending) (w' : World) : Prop :=
  w.grownBy w' (some g) ∧ ((∃ (dev seq stamp kind : Int) (item : ByteArray) (qty level undos : Int) (q : Nat), OpIs s p dev seq stamp kind item qty level undos q ∧ e = .returned (.agg #[.int .i64 dev, .int .i64 seq, .int .i64 stamp, .int .i64 kind, .string item, .int .i64 qty, .int .i64 level, .int .i64 undos]) ∧ RdrAt w' g s q) ∨ (NoOp s p ∧ e = Thrown u x))

/-- Two blocks of the call's own beside the reader's: the result's, and the operation's. -/
structure OpBox (w w1 : World) (g : Nat) (cs : Array Value) : Prop where
  res : w1.heap[w.heap.size]? = some (.cells #[.int .i64 0, .int .i64 0, .int .i64 0, .int .i64 0, .string ⟨#[]⟩, .int .i64 0, .int .i64 0, .int .i64 0] 25 (0, 0))
  opr : w1.heap[w.heap.size + 1]? = some (.cells cs 25 (0, 0))
  grown : w.grownBy w1 (some g)
theorem OpBox.next {w w1 w2 : World} {g : Nat} {cs : Array Value} (h : OpBox w w1 g cs) (hg : w1.grownBy w2 (some g)) (hlt : g < w.heap.size) : OpBox w w2 g cs :=
  ⟨(hg.block _ (Array.getElem?_eq_some_iff.1 h.res).1 (by simp; omega)).trans h.res, (hg.block _ (Array.getElem?_eq_some_iff.1 h.opr).1 (by simp; omega)).trans h.opr, h.grown.trans hg⟩
theorem OpBox.put {w w1 : World} {g : Nat} {cs : Array Value} (h : OpBox w w1 g cs) (i : Nat) (v : Value) : OpBox w (w1.setCell ⟨w.heap.size + 1, i, none⟩ v) g (cs.setIfInBounds i v) :=
  ⟨(heap_setCell_other _ _ _ _ (by simp)).trans h.res, heap_setCell_same _ _ _ _ _ _ h.opr,
   ⟨h.grown.os, h.grown.tape, h.grown.output, Nat.le_trans h.grown.size (by simp [World.setCell]), fun k hk hne => (heap_setCell_other _ _ _ _ (by simp; omega)).trans (h.grown.block k hk hne)⟩⟩
theorem grown_set {w w1 : World} {g b i : Nat} {v : Value} (h : w.grownBy w1 (some g)) (hb : w.heap.size ≤ b) : w.grownBy (w1.setCell ⟨b, i, none⟩ v) (some g) :=
  ⟨h.os, h.tape, h.output, Nat.le_trans h.size (by simp [World.setCell]), fun k hk hne => (heap_setCell_other _ _ _ _ (by show k ≠ b; omega)).trans (h.block k hk hne)⟩
theorem RdrAt.put {w1 : World} {g b i : Nat} {s : ByteArray} {q : Nat} {v : Value} (h : RdrAt w1 g s q) (hb : g ≠ b) : RdrAt (w1.setCell ⟨b, i, none⟩ v) g s q :=
  (heap_setCell_other _ _ _ _ hb).trans h
theorem RdrAt.lt {w1 : World} {g : Nat} {s : ByteArray} {q : Nat} (h : RdrAt w1 g s q) : g < w1.heap.size := (Array.getElem?_eq_some_iff.1 h).1
theorem opBox0 (w : World) (g : Nat) : OpBox w ((w.alloc (.cells #[.int .i64 0, .int .i64 0, .int .i64 0, .int .i64 0, .string ⟨#[]⟩, .int .i64 0, .int .i64 0, .int .i64 0] 25)).alloc (.cells #[.int .i64 0, .int .i64 0, .int .i64 0, .int .i64 0, .string ⟨#[]⟩, .int .i64 0, .int .i64 0, .int .i64 0] 25)) g
    #[.int .i64 0, .int .i64 0, .int .i64 0, .int .i64 0, .string ⟨#[]⟩, .int .i64 0, .int .i64 0, .int .i64 0] :=
  ⟨by show ((w.heap.push _).push _)[_]? = _; rw [Array.getElem?_push_lt (by simp)]; simp, by
    show ((w.heap.push _).push _)[_]? = _
    have e : w.heap.size + 1 = (w.heap.push (.cells #[.int .i64 0, .int .i64 0, .int .i64 0, .int .i64 0, .string ⟨#[]⟩, .int .i64 0, .int .i64 0, .int .i64 0] 25)).size := by simp
    rw [e, Array.getElem?_push_size], (World.grownBy_alloc w _ _).trans (World.grownBy_alloc _ _ _)⟩

set_option maxRecDepth 100000 in
set_option maxHeartbeats 2000000 in
theorem opQ (w : World) (g : Nat) (s : ByteArray) (p : Nat) (u : TypeId) (x : Value) (hs : s.size ≤ 1048576) (hp : p ≤ s.size) (h : RdrAt w g s p) (hE : Sent w u x) (hg : 0 < g) :
    Calls Tryd.prog 23 #[.pointer (some ⟨g, 0, none⟩)] w (OpPostQ s p u x w g) := by
  have hlt := h.lt
  have HR0 : Hid (RdrAt ((w.alloc (.cells #[.int .i64 0, .int .i64 0, .int .i64 0, .int .i64 0, .string ⟨#[]⟩, .int .i64 0, .int .i64 0, .int .i64 0] 25)).alloc (.cells #[.int .i64 0, .int .i64 0, .int .i64 0, .int .i64 0, .string ⟨#[]⟩, .int .i64 0, .int .i64 0, .int .i64 0] 25)) g s p) := by
    show _ = _
    exact (Below.heap_alloc _ _ _ (by show g < (w.heap.push _).size; simp; omega)).trans ((Below.heap_alloc _ _ _ hlt).trans h)
  have HO0 := Lib.hid (opBox0 w g)
  have HE := Lib.hid hE
  clear h hE
  go_enter Tryd.func23, Tryd.ntmps23
  go_wp2_with fail
  generalize (w.alloc (.cells #[.int .i64 0, .int .i64 0, .int .i64 0, .int .i64 0, .string ⟨#[]⟩, .int .i64 0, .int .i64 0, .int .i64 0] 25)).alloc (.cells #[.int .i64 0, .int .i64 0, .int .i64 0, .int .i64 0, .string ⟨#[]⟩, .int .i64 0, .int .i64 0, .int .i64 0] 25) = w0 at HR0 HO0 ⊢
  refine (numberQ w0 g s p u x hs hp HR0.out (HE.out.grown HO0.out.grown hg) hg).mono ?_
  rintro e v0 ⟨hg0, ⟨n0, q1, hn0, rfl, hr0⟩ | ⟨hf, rfl⟩⟩
  rotate_left
  · unfold Thrown
    exact ⟨rfl, (HO0.out.next hg0 hlt).grown, .inr ⟨noOp0  hf, rfl⟩⟩
  have HN0 := Lib.hid hn0
  have hq1 := hn0.le hp
  clear hn0
  have HOv := Lib.hid (HO0.out.next hg0 hlt)
  have HRv := Lib.hid hr0
  clear HO0 HR0 hg0 hr0
  have c1 : v0.cell? ⟨w.heap.size + 1, 0, none⟩ = some (.int .i64 0) := cell_of_row _ _ _ _ _ _ HOv.out.opr
  have f1 : v0.frozen? ⟨w.heap.size + 1, 0, none⟩ = false := frozen_of_row _ _ _ _ _ HOv.out.opr
  have HO1 : Hid (OpBox w (v0.setCell ⟨w.heap.size + 1, 0, none⟩ (.int .i64 (n0 : Int))) g #[.int .i64 (n0 : Int), .int .i64 0, .int .i64 0, .int .i64 0, .string ⟨#[]⟩, .int .i64 0, .int .i64 0, .int .i64 0]) := HOv.out.put 0 _
  have HR1 : Hid (RdrAt (v0.setCell ⟨w.heap.size + 1, 0, none⟩ (.int .i64 (n0 : Int))) g s q1) := HRv.out.put (by omega)
  go_wp2_with fail
  generalize v0.setCell ⟨w.heap.size + 1, 0, none⟩ (.int .i64 (n0 : Int)) = w1 at HO1 HR1 ⊢
  clear c1 f1 HOv HRv
  refine (numberQ w1 g s q1 u x hs hq1 HR1.out (HE.out.grown HO1.out.grown hg) hg).mono ?_
  rintro e v1 ⟨hg1, ⟨n1, q2, hn1, rfl, hr1⟩ | ⟨hf, rfl⟩⟩
  rotate_left
  · unfold Thrown
    exact ⟨rfl, (HO1.out.next hg1 hlt).grown, .inr ⟨noOp1 HN0.out hf, rfl⟩⟩
  have HN1 := Lib.hid hn1
  have hq2 := hn1.le hq1
  clear hn1
  have HOv := Lib.hid (HO1.out.next hg1 hlt)
  have HRv := Lib.hid hr1
  clear HO1 HR1 hg1 hr1
  have c1 : v1.cell? ⟨w.heap.size + 1, 1, none⟩ = some (.int .i64 0) := cell_of_row _ _ _ _ _ _ HOv.out.opr
  have f1 : v1.frozen? ⟨w.heap.size + 1, 1, none⟩ = false := frozen_of_row _ _ _ _ _ HOv.out.opr
  have HO2 : Hid (OpBox w (v1.setCell ⟨w.heap.size + 1, 1, none⟩ (.int .i64 (n1 : Int))) g #[.int .i64 (n0 : Int), .int .i64 (n1 : Int), .int .i64 0, .int .i64 0, .string ⟨#[]⟩, .int .i64 0, .int .i64 0, .int .i64 0]) := HOv.out.put 1 _
  have HR2 : Hid (RdrAt (v1.setCell ⟨w.heap.size + 1, 1, none⟩ (.int .i64 (n1 : Int))) g s q2) := HRv.out.put (by omega)
  go_wp2_with fail
  generalize v1.setCell ⟨w.heap.size + 1, 1, none⟩ (.int .i64 (n1 : Int)) = w2 at HO2 HR2 ⊢
  clear c1 f1 HOv HRv
  refine (numberQ w2 g s q2 u x hs hq2 HR2.out (HE.out.grown HO2.out.grown hg) hg).mono ?_
  rintro e v2 ⟨hg2, ⟨n2, q3, hn2, rfl, hr2⟩ | ⟨hf, rfl⟩⟩
  rotate_left
  · unfold Thrown
    exact ⟨rfl, (HO2.out.next hg2 hlt).grown, .inr ⟨noOp2 HN0.out HN1.out hf, rfl⟩⟩
  have HN2 := Lib.hid hn2
  have hq3 := hn2.le hq2
  clear hn2
  have HOv := Lib.hid (HO2.out.next hg2 hlt)
  have HRv := Lib.hid hr2
  clear HO2 HR2 hg2 hr2
  have c1 : v2.cell? ⟨w.heap.size + 1, 2, none⟩ = some (.int .i64 0) := cell_of_row _ _ _ _ _ _ HOv.out.opr
  have f1 : v2.frozen? ⟨w.heap.size + 1, 2, none⟩ = false := frozen_of_row _ _ _ _ _ HOv.out.opr
  have HO3 : Hid (OpBox w (v2.setCell ⟨w.heap.size + 1, 2, none⟩ (.int .i64 (n2 : Int))) g #[.int .i64 (n0 : Int), .int .i64 (n1 : Int), .int .i64 (n2 : Int), .int .i64 0, .string ⟨#[]⟩, .int .i64 0, .int .i64 0, .int .i64 0]) := HOv.out.put 2 _
  have HR3 : Hid (RdrAt (v2.setCell ⟨w.heap.size + 1, 2, none⟩ (.int .i64 (n2 : Int))) g s q3) := HRv.out.put (by omega)
  go_wp2_with fail
  generalize v2.setCell ⟨w.heap.size + 1, 2, none⟩ (.int .i64 (n2 : Int)) = w3 at HO3 HR3 ⊢
  clear c1 f1 HOv HRv
  refine (numberQ w3 g s q3 u x hs hq3 HR3.out (HE.out.grown HO3.out.grown hg) hg).mono ?_
  rintro e v3 ⟨hg3, ⟨n3, q4, hn3, rfl, hr3⟩ | ⟨hf, rfl⟩⟩
  rotate_left
  · unfold Thrown
    exact ⟨rfl, (HO3.out.next hg3 hlt).grown, .inr ⟨noOp3 HN0.out HN1.out HN2.out hf, rfl⟩⟩
  have HN3 := Lib.hid hn3
  have hq4 := hn3.le hq3
  clear hn3
  have HOv := Lib.hid (HO3.out.next hg3 hlt)
  have HRv := Lib.hid hr3
  clear HO3 HR3 hg3 hr3
  have c1 : v3.cell? ⟨w.heap.size + 1, 3, none⟩ = some (.int .i64 0) := cell_of_row _ _ _ _ _ _ HOv.out.opr
  have f1 : v3.frozen? ⟨w.heap.size + 1, 3, none⟩ = false := frozen_of_row _ _ _ _ _ HOv.out.opr
  have HO4 : Hid (OpBox w (v3.setCell ⟨w.heap.size + 1, 3, none⟩ (.int .i64 (n3 : Int))) g #[.int .i64 (n0 : Int), .int .i64 (n1 : Int), .int .i64 (n2 : Int), .int .i64 (n3 : Int), .string ⟨#[]⟩, .int .i64 0, .int .i64 0, .int .i64 0]) := HOv.out.put 3 _
  have HR4 : Hid (RdrAt (v3.setCell ⟨w.heap.size + 1, 3, none⟩ (.int .i64 (n3 : Int))) g s q4) := HRv.out.put (by omega)
  go_wp2_with fail
  generalize v3.setCell ⟨w.heap.size + 1, 3, none⟩ (.int .i64 (n3 : Int)) = w4 at HO4 HR4 ⊢
  clear c1 f1 HOv HRv
  refine (wordQ w4 g s q4 u x hs hq4 HR4.out (HE.out.grown HO4.out.grown hg) hg).mono ?_
  rintro e v4 ⟨hg4, ⟨t, q5, hn4, rfl, hr4⟩ | ⟨hf, rfl⟩⟩
  rotate_left
  · unfold Thrown
    exact ⟨rfl, (HO4.out.next hg4 hlt).grown, .inr ⟨noOp4 HN0.out HN1.out HN2.out HN3.out hf, rfl⟩⟩
  have HN4 := Lib.hid hn4
  have hq5 := hn4.le hq4
  clear hn4
  have ht4 := HN4.out.size
  have HOv := Lib.hid (HO4.out.next hg4 hlt)
  have HRv := Lib.hid hr4
  clear HO4 HR4 hg4 hr4
  have c1 : v4.cell? ⟨w.heap.size + 1, 4, none⟩ = some (.string ⟨#[]⟩) := cell_of_row _ _ _ _ _ _ HOv.out.opr
  have f1 : v4.frozen? ⟨w.heap.size + 1, 4, none⟩ = false := frozen_of_row _ _ _ _ _ HOv.out.opr
  have HO5 : Hid (OpBox w (v4.setCell ⟨w.heap.size + 1, 4, none⟩ (.string t)) g #[.int .i64 (n0 : Int), .int .i64 (n1 : Int), .int .i64 (n2 : Int), .int .i64 (n3 : Int), .string t, .int .i64 0, .int .i64 0, .int .i64 0]) := HOv.out.put 4 _
  have HR5 : Hid (RdrAt (v4.setCell ⟨w.heap.size + 1, 4, none⟩ (.string t)) g s q5) := HRv.out.put (by omega)
  go_wp2_with fail
  generalize v4.setCell ⟨w.heap.size + 1, 4, none⟩ (.string t) = w5 at HO5 HR5 ⊢
  clear c1 f1 HOv HRv
  refine (numberQ w5 g s q5 u x hs hq5 HR5.out (HE.out.grown HO5.out.grown hg) hg).mono ?_
  rintro e v5 ⟨hg5, ⟨n5, q6, hn5, rfl, hr5⟩ | ⟨hf, rfl⟩⟩
  rotate_left
  · unfold Thrown
    exact ⟨rfl, (HO5.out.next hg5 hlt).grown, .inr ⟨noOp5 HN0.out HN1.out HN2.out HN3.out HN4.out hf, rfl⟩⟩
  have HN5 := Lib.hid hn5
  have hq6 := hn5.le hq5
  clear hn5
  have HOv := Lib.hid (HO5.out.next hg5 hlt)
  have HRv := Lib.hid hr5
  clear HO5 HR5 hg5 hr5
  have c1 : v5.cell? ⟨w.heap.size + 1, 5, none⟩ = some (.int .i64 0) := cell_of_row _ _ _ _ _ _ HOv.out.opr
  have f1 : v5.frozen? ⟨w.heap.size + 1, 5, none⟩ = false := frozen_of_row _ _ _ _ _ HOv.out.opr
  have HO6 : Hid (OpBox w (v5.setCell ⟨w.heap.size + 1, 5, none⟩ (.int .i64 (n5 : Int))) g #[.int .i64 (n0 : Int), .int .i64 (n1 : Int), .int .i64 (n2 : Int), .int .i64 (n3 : Int), .string t, .int .i64 (n5 : Int), .int .i64 0, .int .i64 0]) := HOv.out.put 5 _
  have HR6 : Hid (RdrAt (v5.setCell ⟨w.heap.size + 1, 5, none⟩ (.int .i64 (n5 : Int))) g s q6) := HRv.out.put (by omega)
  go_wp2_with fail
  generalize v5.setCell ⟨w.heap.size + 1, 5, none⟩ (.int .i64 (n5 : Int)) = w6 at HO6 HR6 ⊢
  clear c1 f1 HOv HRv
  refine (numberQ w6 g s q6 u x hs hq6 HR6.out (HE.out.grown HO6.out.grown hg) hg).mono ?_
  rintro e v6 ⟨hg6, ⟨n6, q7, hn6, rfl, hr6⟩ | ⟨hf, rfl⟩⟩
  rotate_left
  · unfold Thrown
    exact ⟨rfl, (HO6.out.next hg6 hlt).grown, .inr ⟨noOp6 HN0.out HN1.out HN2.out HN3.out HN4.out HN5.out hf, rfl⟩⟩
  have HN6 := Lib.hid hn6
  have hq7 := hn6.le hq6
  clear hn6
  have HOv := Lib.hid (HO6.out.next hg6 hlt)
  have HRv := Lib.hid hr6
  clear HO6 HR6 hg6 hr6
  have c1 : v6.cell? ⟨w.heap.size + 1, 6, none⟩ = some (.int .i64 0) := cell_of_row _ _ _ _ _ _ HOv.out.opr
  have f1 : v6.frozen? ⟨w.heap.size + 1, 6, none⟩ = false := frozen_of_row _ _ _ _ _ HOv.out.opr
  have HO7 : Hid (OpBox w (v6.setCell ⟨w.heap.size + 1, 6, none⟩ (.int .i64 (n6 : Int))) g #[.int .i64 (n0 : Int), .int .i64 (n1 : Int), .int .i64 (n2 : Int), .int .i64 (n3 : Int), .string t, .int .i64 (n5 : Int), .int .i64 (n6 : Int), .int .i64 0]) := HOv.out.put 6 _
  have HR7 : Hid (RdrAt (v6.setCell ⟨w.heap.size + 1, 6, none⟩ (.int .i64 (n6 : Int))) g s q7) := HRv.out.put (by omega)
  go_wp2_with fail
  generalize v6.setCell ⟨w.heap.size + 1, 6, none⟩ (.int .i64 (n6 : Int)) = w7 at HO7 HR7 ⊢
  clear c1 f1 HOv HRv
  refine (numberQ w7 g s q7 u x hs hq7 HR7.out (HE.out.grown HO7.out.grown hg) hg).mono ?_
  rintro e v7 ⟨hg7, ⟨n7, q8, hn7, rfl, hr7⟩ | ⟨hf, rfl⟩⟩
  rotate_left
  · unfold Thrown
    exact ⟨rfl, (HO7.out.next hg7 hlt).grown, .inr ⟨noOp7 HN0.out HN1.out HN2.out HN3.out HN4.out HN5.out HN6.out hf, rfl⟩⟩
  have HN7 := Lib.hid hn7
  have hq8 := hn7.le hq7
  clear hn7
  have HOv := Lib.hid (HO7.out.next hg7 hlt)
  have HRv := Lib.hid hr7
  clear HO7 HR7 hg7 hr7
  have c1 : v7.cell? ⟨w.heap.size + 1, 7, none⟩ = some (.int .i64 0) := cell_of_row _ _ _ _ _ _ HOv.out.opr
  have f1 : v7.frozen? ⟨w.heap.size + 1, 7, none⟩ = false := frozen_of_row _ _ _ _ _ HOv.out.opr
  have HO8 : Hid (OpBox w (v7.setCell ⟨w.heap.size + 1, 7, none⟩ (.int .i64 (n7 : Int))) g #[.int .i64 (n0 : Int), .int .i64 (n1 : Int), .int .i64 (n2 : Int), .int .i64 (n3 : Int), .string t, .int .i64 (n5 : Int), .int .i64 (n6 : Int), .int .i64 (n7 : Int)]) := HOv.out.put 7 _
  have HR8 : Hid (RdrAt (v7.setCell ⟨w.heap.size + 1, 7, none⟩ (.int .i64 (n7 : Int))) g s q8) := HRv.out.put (by omega)
  have hd : ∀ j, j < 8 → True := fun _ _ => trivial
  clear hd
  have HC : Hid (∀ W : World, OpBox w W g #[.int .i64 (n0 : Int), .int .i64 (n1 : Int), .int .i64 (n2 : Int), .int .i64 (n3 : Int), .string t, .int .i64 (n5 : Int), .int .i64 (n6 : Int), .int .i64 (n7 : Int)] → W.cell? ⟨w.heap.size + 1, 0, none⟩ = some (.int .i64 (n0 : Int)) ∧ W.cell? ⟨w.heap.size + 1, 1, none⟩ = some (.int .i64 (n1 : Int)) ∧ W.cell? ⟨w.heap.size + 1, 2, none⟩ = some (.int .i64 (n2 : Int)) ∧ W.cell? ⟨w.heap.size + 1, 3, none⟩ = some (.int .i64 (n3 : Int)) ∧ W.cell? ⟨w.heap.size + 1, 4, none⟩ = some (.string t) ∧ W.cell? ⟨w.heap.size + 1, 5, none⟩ = some (.int .i64 (n5 : Int)) ∧ W.cell? ⟨w.heap.size + 1, 6, none⟩ = some (.int .i64 (n6 : Int)) ∧ W.cell? ⟨w.heap.size + 1, 7, none⟩ = some (.int .i64 (n7 : Int))) := fun W hW => ⟨cell_of_row _ _ _ _ _ _ hW.opr, cell_of_row _ _ _ _ _ _ hW.opr, cell_of_row _ _ _ _ _ _ hW.opr, cell_of_row _ _ _ _ _ _ hW.opr, cell_of_row _ _ _ _ _ _ hW.opr, cell_of_row _ _ _ _ _ _ hW.opr, cell_of_row _ _ _ _ _ _ hW.opr, cell_of_row _ _ _ _ _ _ hW.opr⟩
  obtain ⟨d0, d1, d2, d3, d4, d5, d6, d7⟩ := HC.out _ HO8.out
  go_wp2_with fail
  generalize v7.setCell ⟨w.heap.size + 1, 7, none⟩ (.int .i64 (n7 : Int)) = w8 at HO8 HR8 d0 d1 d2 d3 d4 d5 d6 d7 ⊢
  clear c1 f1 HOv HRv d0 d1 d2 d3 d4 d5 d6 d7
  refine (implOpOk (n0 : Int) (n1 : Int) (n2 : Int) (n3 : Int) t (n5 : Int) (n6 : Int) (n7 : Int) _).mono ?_
  rintro e w9 ⟨rfl, hb9⟩
  have hg9 : w8.grownBy w9 (some g) := grown_of_below hb9
  have HO9 := Lib.hid (HO8.out.next hg9 hlt)
  have HR9 : Hid (RdrAt w9 g s q8) := (hb9.block g HR8.out.lt).trans HR8.out
  clear HO8 HR8 hb9 hg9
  rcases ho : opB n0 n1 n2 n3 t n5 n6 n7 with _ | _
  · have HN := Lib.hid (noOp8 HN0.out HN1.out HN2.out HN3.out HN4.out HN5.out HN6.out HN7.out ho)
    have hE1 : w9.cell? ⟨0, 0, none⟩ = some (.iface u x) := HE.out.grown HO9.out.grown hg
    have HGr := Lib.hid HO9.out.grown
    clear ho HO9 HC
    go_wp2
    exact ⟨rfl, HGr.out, .inr ⟨HN.out, rfl⟩⟩
  · have HN := Lib.hid (opIs_mk HN0.out HN1.out HN2.out HN3.out HN4.out HN5.out HN6.out HN7.out ho)
    clear ho
    obtain ⟨d0, d1, d2, d3, d4, d5, d6, d7⟩ := HC.out _ HO9.out
    have e0 : w9.cell? ⟨w.heap.size, 0, none⟩ = some (.int .i64 0) := cell_of_row _ _ _ _ _ _ HO9.out.res
    have f0 : w9.frozen? ⟨w.heap.size, 0, none⟩ = false := frozen_of_row _ _ _ _ _ HO9.out.res
    have e1 : w9.cell? ⟨w.heap.size, 1, none⟩ = some (.int .i64 0) := cell_of_row _ _ _ _ _ _ HO9.out.res
    have f1 : w9.frozen? ⟨w.heap.size, 1, none⟩ = false := frozen_of_row _ _ _ _ _ HO9.out.res
    have e2 : w9.cell? ⟨w.heap.size, 2, none⟩ = some (.int .i64 0) := cell_of_row _ _ _ _ _ _ HO9.out.res
    have f2 : w9.frozen? ⟨w.heap.size, 2, none⟩ = false := frozen_of_row _ _ _ _ _ HO9.out.res
    have e3 : w9.cell? ⟨w.heap.size, 3, none⟩ = some (.int .i64 0) := cell_of_row _ _ _ _ _ _ HO9.out.res
    have f3 : w9.frozen? ⟨w.heap.size, 3, none⟩ = false := frozen_of_row _ _ _ _ _ HO9.out.res
    have e4 : w9.cell? ⟨w.heap.size, 4, none⟩ = some (.string ⟨#[]⟩) := cell_of_row _ _ _ _ _ _ HO9.out.res
    have f4 : w9.frozen? ⟨w.heap.size, 4, none⟩ = false := frozen_of_row _ _ _ _ _ HO9.out.res
    have e5 : w9.cell? ⟨w.heap.size, 5, none⟩ = some (.int .i64 0) := cell_of_row _ _ _ _ _ _ HO9.out.res
    have f5 : w9.frozen? ⟨w.heap.size, 5, none⟩ = false := frozen_of_row _ _ _ _ _ HO9.out.res
    have e6 : w9.cell? ⟨w.heap.size, 6, none⟩ = some (.int .i64 0) := cell_of_row _ _ _ _ _ _ HO9.out.res
    have f6 : w9.frozen? ⟨w.heap.size, 6, none⟩ = false := frozen_of_row _ _ _ _ _ HO9.out.res
    have e7 : w9.cell? ⟨w.heap.size, 7, none⟩ = some (.int .i64 0) := cell_of_row _ _ _ _ _ _ HO9.out.res
    have f7 : w9.frozen? ⟨w.heap.size, 7, none⟩ = false := frozen_of_row _ _ _ _ _ HO9.out.res
    have HGr := Lib.hid HO9.out
    clear HO9 HC
    go_wp2
    have HX : Hid ((((((((((w9.setCell ⟨w.heap.size, 0, none⟩ (.int .i64 (n0 : Int))).setCell ⟨w.heap.size, 1, none⟩ (.int .i64 (n1 : Int))).setCell ⟨w.heap.size, 2, none⟩ (.int .i64 (n2 : Int))).setCell ⟨w.heap.size, 3, none⟩ (.int .i64 (n3 : Int))).setCell ⟨w.heap.size, 4, none⟩ (.string t)).setCell ⟨w.heap.size, 5, none⟩ (.int .i64 (n5 : Int))).setCell ⟨w.heap.size, 6, none⟩ (.int .i64 (n6 : Int))).setCell ⟨w.heap.size, 7, none⟩ (.int .i64 (n7 : Int)))).heap[w.heap.size]? = some (.cells #[.int .i64 (n0 : Int), .int .i64 (n1 : Int), .int .i64 (n2 : Int), .int .i64 (n3 : Int), .string t, .int .i64 (n5 : Int), .int .i64 (n6 : Int), .int .i64 (n7 : Int)] 25 (0, 0))) := heap_setCell_same _ _ _ _ _ _ (heap_setCell_same _ _ _ _ _ _ (heap_setCell_same _ _ _ _ _ _ (heap_setCell_same _ _ _ _ _ _ (heap_setCell_same _ _ _ _ _ _ (heap_setCell_same _ _ _ _ _ _ (heap_setCell_same _ _ _ _ _ _ (heap_setCell_same _ _ _ _ _ _ (HGr.out.res))))))))
    have HGG : Hid (w.grownBy (((((((((w9.setCell ⟨w.heap.size, 0, none⟩ (.int .i64 (n0 : Int))).setCell ⟨w.heap.size, 1, none⟩ (.int .i64 (n1 : Int))).setCell ⟨w.heap.size, 2, none⟩ (.int .i64 (n2 : Int))).setCell ⟨w.heap.size, 3, none⟩ (.int .i64 (n3 : Int))).setCell ⟨w.heap.size, 4, none⟩ (.string t)).setCell ⟨w.heap.size, 5, none⟩ (.int .i64 (n5 : Int))).setCell ⟨w.heap.size, 6, none⟩ (.int .i64 (n6 : Int))).setCell ⟨w.heap.size, 7, none⟩ (.int .i64 (n7 : Int)))) (some g)) := grown_set (grown_set (grown_set (grown_set (grown_set (grown_set (grown_set (grown_set (HGr.out.grown) (Nat.le_refl _)) (Nat.le_refl _)) (Nat.le_refl _)) (Nat.le_refl _)) (Nat.le_refl _)) (Nat.le_refl _)) (Nat.le_refl _)) (Nat.le_refl _)
    have HRR : Hid (RdrAt (((((((((w9.setCell ⟨w.heap.size, 0, none⟩ (.int .i64 (n0 : Int))).setCell ⟨w.heap.size, 1, none⟩ (.int .i64 (n1 : Int))).setCell ⟨w.heap.size, 2, none⟩ (.int .i64 (n2 : Int))).setCell ⟨w.heap.size, 3, none⟩ (.int .i64 (n3 : Int))).setCell ⟨w.heap.size, 4, none⟩ (.string t)).setCell ⟨w.heap.size, 5, none⟩ (.int .i64 (n5 : Int))).setCell ⟨w.heap.size, 6, none⟩ (.int .i64 (n6 : Int))).setCell ⟨w.heap.size, 7, none⟩ (.int .i64 (n7 : Int)))) g s q8) := RdrAt.put (RdrAt.put (RdrAt.put (RdrAt.put (RdrAt.put (RdrAt.put (RdrAt.put (RdrAt.put (HR9.out) (by omega)) (by omega)) (by omega)) (by omega)) (by omega)) (by omega)) (by omega)) (by omega)
    clear d0 d1 d2 d3 d4 d5 d6 d7 e0 e1 e2 e3 e4 e5 e6 e7 f0 f1 f2 f3 f4 f5 f6 f7
    generalize ((((((((w9.setCell ⟨w.heap.size, 0, none⟩ (.int .i64 (n0 : Int))).setCell ⟨w.heap.size, 1, none⟩ (.int .i64 (n1 : Int))).setCell ⟨w.heap.size, 2, none⟩ (.int .i64 (n2 : Int))).setCell ⟨w.heap.size, 3, none⟩ (.int .i64 (n3 : Int))).setCell ⟨w.heap.size, 4, none⟩ (.string t)).setCell ⟨w.heap.size, 5, none⟩ (.int .i64 (n5 : Int))).setCell ⟨w.heap.size, 6, none⟩ (.int .i64 (n6 : Int))).setCell ⟨w.heap.size, 7, none⟩ (.int .i64 (n7 : Int))) = w10 at HX HGG HRR ⊢
    have d0 : w10.cell? ⟨w.heap.size, 0, none⟩ = some (.int .i64 (n0 : Int)) := cell_of_row _ _ _ _ _ _ HX.out
    have d1 : w10.cell? ⟨w.heap.size, 1, none⟩ = some (.int .i64 (n1 : Int)) := cell_of_row _ _ _ _ _ _ HX.out
    have d2 : w10.cell? ⟨w.heap.size, 2, none⟩ = some (.int .i64 (n2 : Int)) := cell_of_row _ _ _ _ _ _ HX.out
    have d3 : w10.cell? ⟨w.heap.size, 3, none⟩ = some (.int .i64 (n3 : Int)) := cell_of_row _ _ _ _ _ _ HX.out
    have d4 : w10.cell? ⟨w.heap.size, 4, none⟩ = some (.string t) := cell_of_row _ _ _ _ _ _ HX.out
    have d5 : w10.cell? ⟨w.heap.size, 5, none⟩ = some (.int .i64 (n5 : Int)) := cell_of_row _ _ _ _ _ _ HX.out
    have d6 : w10.cell? ⟨w.heap.size, 6, none⟩ = some (.int .i64 (n6 : Int)) := cell_of_row _ _ _ _ _ _ HX.out
    have d7 : w10.cell? ⟨w.heap.size, 7, none⟩ = some (.int .i64 (n7 : Int)) := cell_of_row _ _ _ _ _ _ HX.out
    exact bodyPost_ret (v := .agg #[.int .i64 (n0 : Int), .int .i64 (n1 : Int), .int .i64 (n2 : Int), .int .i64 (n3 : Int), .string t, .int .i64 (n5 : Int), .int .i64 (n6 : Int), .int .i64 (n7 : Int)]) (by simp [results, Tryd.results23, go_sem, d0, d1, d2, d3, d4, d5, d6, d7]) rfl ⟨HGG.out, .inl ⟨_, _, _, _, _, _, _, _, _, HN.out, rfl, HRR.out⟩⟩
end Go.Proofs.YtialoobnjfbboaaDoor
