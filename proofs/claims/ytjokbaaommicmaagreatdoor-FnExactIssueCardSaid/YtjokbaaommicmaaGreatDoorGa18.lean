/- Walks and mathematics that several claims share, part 18. -/
import Derived.Test.YtjokbaaommicmaaGreatDoorGa12
import Derived.Deep.Cut
import Derived.Deep.RegionHeld3
import Derived.RegionTactic
import Derived.Handy
import Derived.Below
import Derived.Test.YtjokbaaommicmaaGreatDoorGaA
namespace Go.Proofs.YtjokbaaommicmaaGreatDoor
open Go.RowKit
set_option linter.unusedVariables false

structure LnV where
 item : ByteArray
 qty : Int
 saved : Bool
def LnV.zero : LnV := ⟨⟨#[]⟩, 0, false⟩
def LnAt (w : World) (b off : Nat) (o : LnV) : Prop := w.cell? ⟨b, off, none⟩ = some (.string o.item) ∧ w.cell? ⟨b, off + 1, none⟩ = some (.int .i64 o.qty) ∧ w.cell? ⟨b, off + 2, none⟩ = some (.bool o.saved)
theorem LnAt.kept {w w' : World} {b off : Nat} {o : LnV} (h : LnAt w b off o) (hb : w'.heap[b]? = w.heap[b]?) : LnAt w' b off o := by
 obtain ⟨h0, h1, h2⟩ := h
 exact ⟨(World.cell?_of_block (a := ⟨b, off, none⟩) hb).trans h0, (World.cell?_of_block (a := ⟨b, off + 1, none⟩) hb).trans h1, (World.cell?_of_block (a := ⟨b, off + 2, none⟩) hb).trans h2⟩
/-- A slice of n offers that reads as l; its row lies below block B. -/
def Lns (w : World) (B : Nat) (a : Option Addr) (n : Nat) (l : List LnV) : Prop :=
 l.length = n ∧ ∀ i, i < n → ∃ b off, a = some ⟨b, off, none⟩ ∧ b < B ∧ LnAt w b (off + i * 3) (l.getD i LnV.zero)
theorem Lns.kept {w w' : World} {B : Nat} {a : Option Addr} {n : Nat} {l : List LnV} (h : Lns w B a n l) (hk : ∀ k, k < B → w'.heap[k]? = w.heap[k]?) : Lns w' B a n l :=
 ⟨h.1, fun i hi => by obtain ⟨b, off, e, hb, ho⟩ := h.2 i hi; exact ⟨b, off, e, hb, ho.kept (hk b hb)⟩⟩
theorem Lns.below {w w' : World} {B B' : Nat} {a : Option Addr} {n : Nat} {l : List LnV} (h : Lns w B a n l) (hb : Below B' w w') (hB : B ≤ B') : Lns w' B a n l :=
 h.kept fun k hk => hb.block k (by omega)
theorem Lns.more {w : World} {B B' : Nat} {a : Option Addr} {n : Nat} {l : List LnV} (h : Lns w B a n l) (hB : B ≤ B') : Lns w B' a n l :=
 ⟨h.1, fun i hi => by obtain ⟨b, off, e, hb, ho⟩ := h.2 i hi; exact ⟨b, off, e, by omega, ho⟩⟩
end Go.Proofs.YtjokbaaommicmaaGreatDoor
