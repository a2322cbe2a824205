/- Walks and mathematics that several claims share, part 33. -/
import Derived.Test.YthkagbnpcjidfaaGreatDoorRows
import Derived.WalkKit
import Derived.LaidEql
import Derived.Stop.Asserts
import Derived.RowKitTokens
import Derived.Below
import Derived.Test.YthkagbnpcjidfaaGreatDoorGuA
namespace Go.Proofs.YthkagbnpcjidfaaGreatDoor
set_option maxRecDepth 100000
open Go.RowKit Go.Extern.Stop Go.Stop Go.Extern
set_option linter.unusedVariables false
set_option linter.unusedSimpArgs false
theorem aM0 (t : Value) (w : World) :
  Calls Tryz.prog 43 #[.nilIface, t] w fun e w' => e = .returned (.bool false) ∧ w' = w := by
 go_enter Tryz.func43, Tryz.ntmps43
 go_wp2
 go_ret
 exact ⟨rfl, rfl⟩
theorem aIV (t : Addr) (w : World) : (ReflectliteValue.unpack (.iface 68 (.pointer (some t)))).run Tryz.prog w
  = .ok (.agg #[.pointer (some ⟨5, 68, none⟩), .pointer (some ⟨w.heap.size, 0, none⟩), .int .u64 150]) (w.alloc (.cells #[.pointer (some t)] 68)) := by kernel_rfl
theorem aM3 (a : Addr) (w : World) : (ReflectliteValue.methodAny (ReflectliteValue.valueError "reflectlite.Value.Type" 0) (fun t _ _ _ => ReflectliteType.toType t) #[.agg #[.pointer (some ⟨5, 68, none⟩), .pointer (some a), .int .u64 150]]).run Tryz.prog w
  = .ok (.iface 154 (.agg #[.pointer (some ⟨5, 68, none⟩)])) w := by kernel_rfl
theorem aKG (w : World) : ((ReflectliteType.abiMethod fun t => (fun a : Nat => Value.int IntKind.u8 (a : Int)) <$> Rtype.kind t) #[.pointer (some ⟨5, 68, none⟩)]).run Tryz.prog w = .ok (.int .u8 22) w := by kernel_rfl
theorem aLX (w : World) : ((ReflectliteType.abiMethod fun t => (fun a : Nat => Value.int IntKind.u8 (a : Int)) <$> Rtype.kind t) #[.pointer (some ⟨5, 66, none⟩)]).run Tryz.prog w = .ok (.int .u8 22) w := by kernel_rfl
theorem rlm (z : Sem Value) (f : TypeId → Addr → Nat → Nat → Sem Value) (v : Value) :
  ReflectliteValue.method z f #[v] = (do match ← ReflectliteValue.parts v with | none => z | some (t, a, fl) => f t a fl (fl % 32)) := rfl
theorem aDn (a : Addr) (w : World) : (ReflectliteValue.parts (.agg #[.pointer (some ⟨5, 68, none⟩), .pointer (some a), .int .u64 150])).run Tryz.prog w = .ok (some (68, a, 150)) w := by kernel_rfl
theorem aLY (a p : Addr) (W : World) (ha : W.cell? a = some (.pointer (some p))) :
  (ReflectliteValue.method (ReflectliteValue.valueError "reflectlite.Value.IsNil" 0) ReflectliteValue.isNil #[.agg #[.pointer (some ⟨5, 68, none⟩), .pointer (some a), .int .u64 150]]).run Tryz.prog W = .ok (.bool false) W := by
 rw [rlm]
 simp only [Sem.run_bind, aDn, Result.andThen]
 simp [ReflectliteValue.isNil, loadVar, isAgg, underlying, Tryz.underlying68, ha, Result.andThen]
theorem aEm (h : Value) (w : World) : (Go.method 357 154 (.agg #[h]) "Kind").run Tryz.prog w = .ok (182, h) w := by kernel_rfl
theorem aEo (h : Value) (w : World) : (Go.method 357 154 (.agg #[h]) "Elem").run Tryz.prog w = .ok (195, .agg #[h]) w := by kernel_rfl
theorem aEn (h : Value) (w : World) : (Go.method 357 154 (.agg #[h]) "Implements").run Tryz.prog w = .ok (196, .agg #[h]) w := by kernel_rfl
theorem aB9 (h : Value) (w : World) : (Go.method 357 154 (.agg #[h]) "AssignableTo").run Tryz.prog w = .ok (193, .agg #[h]) w := by kernel_rfl
theorem aKH (w : World) : (ReflectliteType.method ReflectliteType.elem #[.agg #[.pointer (some ⟨5, 68, none⟩)]]).run Tryz.prog w = .ok (.iface 154 (.agg #[.pointer (some ⟨5, 66, none⟩)])) w := by kernel_rfl
theorem aLZ (w : World) : (ReflectliteType.relation "Implements" ReflectliteType.implements_ #[.agg #[.pointer (some ⟨5, 66, none⟩)], .iface 154 (.agg #[.pointer (some ⟨5, 63, none⟩)])]).run Tryz.prog w = .ok (.bool true) w := by kernel_rfl
theorem aKD (v : Value) (w : World) : (ReflectliteType.typeOf #[.iface 66 v]).run Tryz.prog w = .ok (.iface 154 (.agg #[.pointer (some ⟨5, 66, none⟩)])) w := by kernel_rfl
theorem aIW (w : World) : (ReflectliteType.relation "AssignableTo" ReflectliteType.assignableTo #[.agg #[.pointer (some ⟨5, 66, none⟩)], .iface 154 (.agg #[.pointer (some ⟨5, 66, none⟩)])]).run Tryz.prog w = .ok (.bool true) w := by kernel_rfl
theorem aHs (e : Addr) (w : World) : (ReflectliteValue.unpack (.iface 66 (.pointer (some e)))).run Tryz.prog w
  = .ok (.agg #[.pointer (some ⟨5, 66, none⟩), .pointer (some ⟨w.heap.size, 0, none⟩), .int .u64 150]) (w.alloc (.cells #[.pointer (some e)] 66)) := by kernel_rfl
theorem aKI (w : World) : (Rtype.elem? 68).run Tryz.prog w = .ok (some 66) w := by kernel_rfl
theorem aN8 (p : Addr) (w : World) : (ReflectliteValue.mk 66 p ReflectliteValue.flagAddr).run Tryz.prog w = .ok (.agg #[.pointer (some ⟨5, 66, none⟩), .pointer (some p), .int .u64 406]) w := by kernel_rfl
theorem aL0 (a p : Addr) (W : World) (ha : W.cell? a = some (.pointer (some p))) :
  (ReflectliteValue.method (ReflectliteValue.valueError "reflectlite.Value.Elem" 0) ReflectliteValue.elem #[.agg #[.pointer (some ⟨5, 68, none⟩), .pointer (some a), .int .u64 150]]).run Tryz.prog W
   = .ok (.agg #[.pointer (some ⟨5, 66, none⟩), .pointer (some p), .int .u64 406]) W := by
 rw [rlm]
 simp only [Sem.run_bind, aDn, Result.andThen]
 simp [ReflectliteValue.elem, loadVar, isAgg, underlying, Tryz.underlying68, ha, Result.andThen, aKI, aN8]
theorem aKF (a : Addr) (w : World) : (ReflectliteValue.parts (.agg #[.pointer (some ⟨5, 66, none⟩), .pointer (some a), .int .u64 406])).run Tryz.prog w = .ok (some (66, a, 406)) w := by kernel_rfl
theorem aKE (a : Addr) (w : World) : (ReflectliteValue.parts (.agg #[.pointer (some ⟨5, 66, none⟩), .pointer (some a), .int .u64 150])).run Tryz.prog w = .ok (some (66, a, 150)) w := by kernel_rfl
theorem aKJ (w : World) : (Rtype.directlyAssignable 66 66).run Tryz.prog w = .ok true w := by kernel_rfl
theorem aN7 (ta b e : Addr) (zZ : Value) (W : World) (hb : W.cell? b = some (.pointer (some e))) (ht : W.cell? ta = some zZ) (hf : W.frozen? ta = false) :
  (ReflectliteValue.set #[.agg #[.pointer (some ⟨5, 66, none⟩), .pointer (some ta), .int .u64 406], .agg #[.pointer (some ⟨5, 66, none⟩), .pointer (some b), .int .u64 150]]).run Tryz.prog W
   = .ok (.tuple #[]) (W.setCell ta (.pointer (some e))) := by
 show (ReflectliteValue.parts (.agg #[.pointer (some ⟨5, 66, none⟩), .pointer (some ta), .int .u64 406]) >>= fun p => ReflectliteValue.parts (.agg #[.pointer (some ⟨5, 66, none⟩), .pointer (some b), .int .u64 150]) >>= _).run Tryz.prog W = _
 simp only [Sem.run_bind, aKF, aKE, Result.andThen]
 simp [ReflectliteValue.flagAddr, loadVar, isAgg, underlying, Tryz.underlying66, hb, Result.andThen, aKJ, storeVar, Value.cells, storeCells, Addr.add]
 rw [run_store Tryz.prog W ta _ _ (by rfl)]
 simp [ht, hf]
set_option maxHeartbeats 20000000 in
theorem aLW (e t : Addr) (zZ : Value) (w : World) (hg : w.cell? ⟨1, 0, none⟩ = some (.iface 154 (.agg #[.pointer (some ⟨5, 63, none⟩)]))) (ht0 : w.cell? t = some zZ) (hf0 : w.frozen? t = false) :
  Calls Tryz.prog 43 #[.iface 66 (.pointer (some e)), .iface 68 (.pointer (some t))] w fun ev w' => ev = .returned (.bool true) ∧ w' = ((((w.alloc (.cells #[.pointer (some t)] 68)).alloc (.cells #[.pointer (some ⟨5, 68, none⟩), .pointer (some ⟨w.heap.size, 0, none⟩), .int .u64 150] 118)).alloc (.cells #[.pointer (some ⟨5, 68, none⟩), .pointer (some ⟨w.heap.size, 0, none⟩), .int .u64 150] 118)).alloc (.cells #[.pointer (some e)] 66)).setCell t (.pointer (some e)) := by
 have h6 := @run_callFunc_extern Tryz.prog 80 _ (fun args => ReflectliteValue.unpack (args.getD 0 (.tuple #[]))) Tryz.func80 (by kernel_rfl) (by kernel_rfl) (by kernel_rfl) (by kernel_rfl)
 have h7 := @run_callFunc_extern Tryz.prog 81 _ (ReflectliteValue.methodAny (ReflectliteValue.valueError "reflectlite.Value.Type" 0) (fun t _ _ _ => ReflectliteType.toType t)) Tryz.func81 (by kernel_rfl) (by kernel_rfl) (by kernel_rfl) (by kernel_rfl)
 have h8 := @run_callFunc_extern Tryz.prog 82 _ (ReflectliteValue.method (ReflectliteValue.valueError "reflectlite.Value.IsNil" 0) ReflectliteValue.isNil) Tryz.func82 (by kernel_rfl) (by kernel_rfl) (by kernel_rfl) (by kernel_rfl)
 have h27 := @run_callFunc_extern Tryz.prog 182 _ (ReflectliteType.abiMethod fun t => do pure (.int .u8 (← Rtype.kind t))) Tryz.func182 (by kernel_rfl) (by kernel_rfl) (by kernel_rfl) (by kernel_rfl)
 have h37 := @run_callFunc_extern Tryz.prog 195 _ (ReflectliteType.method ReflectliteType.elem) Tryz.func195 (by kernel_rfl) (by kernel_rfl) (by kernel_rfl) (by kernel_rfl)
 have N7 := @run_callFunc_extern Tryz.prog 196 _ (ReflectliteType.relation "Implements" ReflectliteType.implements_) Tryz.func196 (by kernel_rfl) (by kernel_rfl) (by kernel_rfl) (by kernel_rfl)
 have h10 := @run_callFunc_extern Tryz.prog 111 _ ReflectliteType.typeOf Tryz.func111 (by kernel_rfl) (by kernel_rfl) (by kernel_rfl) (by kernel_rfl)
 have h35 := @run_callFunc_extern Tryz.prog 193 _ (ReflectliteType.relation "AssignableTo" ReflectliteType.assignableTo) Tryz.func193 (by kernel_rfl) (by kernel_rfl) (by kernel_rfl) (by kernel_rfl)
 have h11 := @run_callFunc_extern Tryz.prog 112 _ (ReflectliteValue.method (ReflectliteValue.valueError "reflectlite.Value.Elem" 0) ReflectliteValue.elem) Tryz.func112 (by kernel_rfl) (by kernel_rfl) (by kernel_rfl) (by kernel_rfl)
 have h12 := @run_callFunc_extern Tryz.prog 113 _ ReflectliteValue.set Tryz.func113 (by kernel_rfl) (by kernel_rfl) (by kernel_rfl) (by kernel_rfl)
 have tO := aKD
 have mA := aB9
 have a25 := aIW
 have v25 := aHs
 have f6 := aIV
 have f7 := aM3
 have mK := aEm
 have mE := aEo
 have mI := aEn
 have k27 := aKG
 have k25 := aLX
 have e27 := aKH
 have i25 := aLZ
 have n8 := aLY ⟨w.heap.size, 0, none⟩ t ((w.alloc (.cells #[.pointer (some t)] 68)).alloc (.cells #[.pointer (some ⟨5, 68, none⟩), .pointer (some ⟨w.heap.size, 0, none⟩), .int .u64 150] 118)) (by simp)
 have aJ : 1 < w.heap.size := block_lt_of_cell hg
 have eH : ((w.alloc (.cells #[.pointer (some t)] 68)).alloc (.cells #[.pointer (some ⟨5, 68, none⟩), .pointer (some ⟨w.heap.size, 0, none⟩), .int .u64 150] 118)).cell? ⟨1, 0, none⟩ = some (.iface 154 (.agg #[.pointer (some ⟨5, 63, none⟩)])) := by
  rw [World.cell?_alloc_lt _ _ ⟨1, 0, none⟩ (by simp; omega), World.cell?_alloc_lt _ _ ⟨1, 0, none⟩ aJ]; exact hg
 have htl : t.block < w.heap.size := by
  rcases Nat.lt_or_ge t.block w.heap.size with h | h
  ·exact h
  ·simp [World.cell?, Array.getElem?_eq_none h] at ht0
 have el := aL0 ⟨w.heap.size, 0, none⟩ t (((w.alloc (.cells #[.pointer (some t)] 68)).alloc (.cells #[.pointer (some ⟨5, 68, none⟩), .pointer (some ⟨w.heap.size, 0, none⟩), .int .u64 150] 118)).alloc (.cells #[.pointer (some ⟨5, 68, none⟩), .pointer (some ⟨w.heap.size, 0, none⟩), .int .u64 150] 118)) (by rw [World.cell?_alloc_lt _ _ ⟨w.heap.size, 0, none⟩ (by simp; omega)]; simp)
 have st := aN7 t ⟨w.heap.size + 1 + 1 + 1, 0, none⟩ e zZ ((((w.alloc (.cells #[.pointer (some t)] 68)).alloc (.cells #[.pointer (some ⟨5, 68, none⟩), .pointer (some ⟨w.heap.size, 0, none⟩), .int .u64 150] 118)).alloc (.cells #[.pointer (some ⟨5, 68, none⟩), .pointer (some ⟨w.heap.size, 0, none⟩), .int .u64 150] 118)).alloc (.cells #[.pointer (some e)] 66))
  (by rw [World.cell?_alloc_at _ _ _ _ (by simp)]; rfl)
  (by rw [World.cell?_alloc_lt _ _ t (by simp; omega), World.cell?_alloc_lt _ _ t (by simp; omega), World.cell?_alloc_lt _ _ t (by simp; omega), World.cell?_alloc_lt _ _ t htl]; exact ht0)
  (by rw [World.frozen?_alloc_old _ _ t (by simp; omega), World.frozen?_alloc_old _ _ t (by simp; omega), World.frozen?_alloc_old _ _ t (by simp; omega), World.frozen?_alloc_old _ _ t (Nat.ne_of_lt htl)]; exact hf0)
 go_enter Tryz.func43, Tryz.ntmps43
 go_wp2
 refine wp_loop_rounds 1 ?_
 rw [rounds_succ]
 go_wp2
 go_ret
 exact ⟨rfl, rfl⟩
theorem aM1 (B : Nat) (e t : Addr) (zZ : Value) (w : World) (hB : B ≤ w.heap.size) (hBt : B ≤ t.block) (hts : t.spot = none) (hg : w.cell? ⟨1, 0, none⟩ = some (.iface 154 (.agg #[.pointer (some ⟨5, 63, none⟩)]))) (ht0 : w.cell? t = some zZ) (hf0 : w.frozen? t = false) :
  Calls Tryz.prog 43 #[.iface 66 (.pointer (some e)), .iface 68 (.pointer (some t))] w fun ev w' => ev = .returned (.bool true) ∧ Below B w w' ∧ w'.cell? t = some (.pointer (some e)) ∧ ∀ j, j < w.heap.size → j ≠ t.block → w'.heap[j]? = w.heap[j]? := by
 obtain ⟨tb, to, ts⟩ := t
 have hts : ts = none := hts
 subst hts
 refine (aLW e ⟨tb, to, none⟩ zZ w hg ht0 hf0).mono ?_
 rintro ev w' ⟨h1, rfl⟩
 have htl : tb < w.heap.size := block_lt_of_cell ht0
 have b1 : Below w.heap.size w ((((w.alloc (.cells #[.pointer (some ⟨tb, to, none⟩)] 68)).alloc (.cells #[.pointer (some ⟨5, 68, none⟩), .pointer (some ⟨w.heap.size, 0, none⟩), .int .u64 150] 118)).alloc (.cells #[.pointer (some ⟨5, 68, none⟩), .pointer (some ⟨w.heap.size, 0, none⟩), .int .u64 150] 118)).alloc (.cells #[.pointer (some e)] 66)) := (((((Below.refl _ w).alloc aPq _).alloc (by simp) _).alloc (by simp; omega) _).alloc (by simp; omega) _)
 refine ⟨h1, (b1.mono hB).setCell hBt _, ?_, fun j hj bO => ?_⟩
 ·have hc : ((((w.alloc (.cells #[.pointer (some ⟨tb, to, none⟩)] 68)).alloc (.cells #[.pointer (some ⟨5, 68, none⟩), .pointer (some ⟨w.heap.size, 0, none⟩), .int .u64 150] 118)).alloc (.cells #[.pointer (some ⟨5, 68, none⟩), .pointer (some ⟨w.heap.size, 0, none⟩), .int .u64 150] 118)).alloc (.cells #[.pointer (some e)] 66)).cell? ⟨tb, to, none⟩ = some zZ := (b1.cell htl).trans ht0
  exact World.cell?_setCell_same' _ _ _ (by rw [hc]; rfl)
 ·rw [heap_setCell_other _ _ _ _ bO]
  exact b1.block j hj
theorem aCS (v : Value) (w : World) : (Extern.ReflectliteType.typeOf #[.iface 226 v]).run Tryz.prog w = .ok (.iface 154 (.agg #[.pointer (some ⟨5, 226, none⟩)])) w := by kernel_rfl
theorem R4 (w : World) : ((Extern.ReflectliteType.method fun t => do Rtype.noPackHeld "Comparable" t; pure (.bool (← typeInfo t).comparable)) #[.agg #[.pointer (some ⟨5, 226, none⟩)]]).run Tryz.prog w = .ok (.bool true) w := by kernel_rfl
theorem M5 (w : World) : ((Extern.ReflectliteType.method fun t => do Rtype.noPackHeld "Comparable" t; (fun a => Value.bool a.comparable) <$> typeInfo t) #[.agg #[.pointer (some ⟨5, 226, none⟩)]]).run Tryz.prog w = .ok (.bool true) w := by kernel_rfl
theorem R3 (v : Value) (w : World) : (Go.method 357 154 v "Comparable").run Tryz.prog w = .ok (194, v) w := by kernel_rfl
theorem aGQ : (Tryz.prog.info? 226).map (·.comparable) = some true := by kernel_rfl
theorem aGP : (Tryz.prog.info? 245).map (·.size) = some 1 := by kernel_rfl
theorem aJl (v : Value) (xT : TypeId) (w : World) : (Instr.typeAssert (.iface 226 v) xT 194 true).run Tryz.prog w = .ok (.tuple #[.nilIface, .bool false]) w := run_typeAssert_lacksB Tryz.underlying194 (by kernel_rfl) (by kernel_rfl) v xT w
theorem aGw (v : Value) (xT : TypeId) (w : World) : (Instr.typeAssert (.iface 226 v) xT 162 true).run Tryz.prog w = .ok (.tuple #[.nilIface, .bool false]) w := run_typeAssert_lacksB Tryz.underlying162 (by kernel_rfl) (by kernel_rfl) v xT w
theorem aGx (v : Value) (xT : TypeId) (w : World) : (Instr.typeAssert (.iface 226 v) xT 164 true).run Tryz.prog w = .ok (.tuple #[.nilIface, .bool false]) w := run_typeAssert_lacksB Tryz.underlying164 (by kernel_rfl) (by kernel_rfl) v xT w
theorem aJk (v : Value) (xT : TypeId) (w : World) : (Instr.typeAssert (.iface 66 v) xT 194 true).run Tryz.prog w = .ok (.tuple #[.nilIface, .bool false]) w := run_typeAssert_lacksB Tryz.underlying194 (by kernel_rfl) (by kernel_rfl) v xT w
theorem aEK (v : Value) (xT : TypeId) (w : World) : (Instr.typeAssert (.iface 66 v) xT 162 true).run Tryz.prog w = .ok (.tuple #[.iface 66 v, .bool true]) w := run_typeAssert_hasB Tryz.underlying162 (by kernel_rfl) v xT w
theorem aBK (v : Value) (w : World) : (Go.method 357 66 v "Unwrap").run Tryz.prog w = .ok (186, v) w := by kernel_rfl
set_option maxHeartbeats 20000000 in
theorem aLh (pb po : Nat) (b : Addr) (w : World) (h1 : w.cell? ⟨pb, po + 2, none⟩ = some (.iface 226 (.pointer (some b)))) :
  Calls Tryz.prog 84 #[.iface 66 (.pointer (some ⟨pb, po, none⟩)), .iface 226 (.pointer (some b))] w fun e w' => e = .returned (.bool true) ∧ w' = w := by
 obtain ⟨i, hi, aIA⟩ := Option.map_eq_some_iff.1 aGQ
 obtain ⟨j, hj, hjs⟩ := Option.map_eq_some_iff.1 aGP
 have h8 := @run_callFunc_extern Tryz.prog 111 _ Extern.ReflectliteType.typeOf Tryz.func111 (by kernel_rfl) (by kernel_rfl) (by kernel_rfl) (by kernel_rfl)
 have h32 := @run_callFunc_extern Tryz.prog 194 _ (Extern.ReflectliteType.method fun t => do Rtype.noPackHeld "Comparable" t; pure (.bool (← typeInfo t).comparable)) Tryz.func194 (by kernel_rfl) (by kernel_rfl) (by kernel_rfl) (by kernel_rfl)
 have tT := aCS
 have cT := R4
 have cT2 := M5
 have mR := R3
 have nE := aJl
 have uE := aGw
 have vE := aGx
 have nW := aJk
 have uW := aEK
 have mU := aBK
 have heq := run_eql_iface_ptr_same (P := Tryz.prog) w b Tryz.underlying63 Tryz.underlying226 hi aIA hj
 have hty := run_eql_iface_types (P := Tryz.prog) 66 226 (.pointer (some ⟨pb, po, none⟩)) (.pointer (some b)) Tryz.underlying63 (by decide) w
 go_enter Tryz.func84, Tryz.ntmps84
 go_wp2
 refine wp_loop_rounds 2 ?_
 rw [rounds_succ]
 go_wp2
 rw [rounds_succ]
 go_wp2
 go_ret
 exact ⟨rfl, rfl⟩
set_option maxHeartbeats 20000000 in
theorem aKm (pb po : Nat) (b a : Addr) (ca cb : Array Value) (ta tb : TypeId) (w : World) (h1 : w.cell? ⟨pb, po + 2, none⟩ = some (.iface 226 (.pointer (some a)))) (bO : a ≠ b) (ha : w.heap[a.block]? = some (.cells ca ta (0, 0))) (hb : w.heap[b.block]? = some (.cells cb tb (0, 0))) :
  Calls Tryz.prog 84 #[.iface 66 (.pointer (some ⟨pb, po, none⟩)), .iface 226 (.pointer (some b))] w fun e w' => e = .returned (.bool false) ∧ w' = w := by
 obtain ⟨i, hi, aIA⟩ := Option.map_eq_some_iff.1 aGQ
 obtain ⟨j, hj, hjs⟩ := Option.map_eq_some_iff.1 aGP
 have h8 := @run_callFunc_extern Tryz.prog 111 _ Extern.ReflectliteType.typeOf Tryz.func111 (by kernel_rfl) (by kernel_rfl) (by kernel_rfl) (by kernel_rfl)
 have h32 := @run_callFunc_extern Tryz.prog 194 _ (Extern.ReflectliteType.method fun t => do Rtype.noPackHeld "Comparable" t; pure (.bool (← typeInfo t).comparable)) Tryz.func194 (by kernel_rfl) (by kernel_rfl) (by kernel_rfl) (by kernel_rfl)
 have tT := aCS
 have cT := R4
 have cT2 := M5
 have mR := R3
 have nE := aJl
 have uE := aGw
 have vE := aGx
 have nW := aJk
 have uW := aEK
 have mU := aBK
 have heq := run_eql_iface_ptr_other (P := Tryz.prog) w Tryz.underlying63 Tryz.underlying226 hi aIA hj (by rw [hjs]; decide) bO ha hb
 have hty := run_eql_iface_types (P := Tryz.prog) 66 226 (.pointer (some ⟨pb, po, none⟩)) (.pointer (some b)) Tryz.underlying63 (by decide) w
 go_enter Tryz.func84, Tryz.ntmps84
 go_wp2
 refine wp_loop_rounds 2 ?_
 rw [rounds_succ]
 go_wp2
 rw [rounds_succ]
 go_wp2
 go_ret
 exact ⟨rfl, rfl⟩
end Go.Proofs.YthkagbnpcjidfaaGreatDoor
