import Derived.Test.YtdfbjnachakkhaaGreatDoorM43
namespace Go.Proofs.YtdfbjnachakkhaaGreatDoor
open Go.RowKit Go.Extern.Stop Go.Stop Go.Extern
set_option linter.unusedVariables false
set_option maxRecDepth 100000 in
theorem as_nil (t : Value) (w : World) :
    Calls Tryz.prog 45 #[.nilIface, t] w fun e w' => e = .returned (.bool false) ∧ w = w' := by
  go_enter Tryz.func45, Tryz.ntmps45
  go_wp2
  go_ret
  exact ⟨rfl, rfl⟩
theorem as_valueOf (t : Addr) (w : World) : (ReflectliteValue.unpack (.iface 117 (.pointer (some t)))).run Tryz.prog w
    = .ok (.agg #[.pointer (some ⟨5, 117, none⟩), .pointer (some ⟨w.heap.size, 0, none⟩), .int .u64 150]) (w.alloc (.cells #[.pointer (some t)] 117)) := by kernel_rfl
theorem as_type (a : Addr) (w : World) : (ReflectliteValue.methodAny (ReflectliteValue.valueError "reflectlite.Value.Type" 0) (fun t _ _ _ => ReflectliteType.toType t) #[.agg #[.pointer (some ⟨5, 117, none⟩), .pointer (some a), .int .u64 150]]).run Tryz.prog w
    = .ok (.iface 227 (.agg #[.pointer (some ⟨5, 117, none⟩)])) w := by kernel_rfl
theorem as_methodKind (h : Value) (w : World) : (Go.method 468 227 (.agg #[h]) "Kind").run Tryz.prog w = .ok (236, h) w := by kernel_rfl
noncomputable def kindX : Array Value → Sem Value := (Extern.find Tryz.f236).getD (fun _ => pure .nilIface)
theorem as_kindP (w : World) : (kindX #[.pointer (some ⟨5, 117, none⟩)]).run Tryz.prog w = .ok (.int .u8 22) w := by kernel_rfl
theorem as_kindS (w : World) : (kindX #[.pointer (some ⟨5, 115, none⟩)]).run Tryz.prog w = .ok (.int .u8 25) w := by kernel_rfl
theorem as_partsP (a : Addr) (w : World) : (ReflectliteValue.parts (.agg #[.pointer (some ⟨5, 117, none⟩), .pointer (some a), .int .u64 150])).run Tryz.prog w = .ok (some (117, a, 150)) w := by kernel_rfl
theorem as_methodElem (h : Value) (w : World) : (Go.method 468 227 (.agg #[h]) "Elem").run Tryz.prog w = .ok (248, .agg #[h]) w := by kernel_rfl
theorem as_methodImplements (h : Value) (w : World) : (Go.method 468 227 (.agg #[h]) "Implements").run Tryz.prog w = .ok (249, .agg #[h]) w := by kernel_rfl
theorem as_methodAssignable (h : Value) (w : World) : (Go.method 468 227 (.agg #[h]) "AssignableTo").run Tryz.prog w = .ok (246, .agg #[h]) w := by kernel_rfl
theorem as_elem (w : World) : (ReflectliteType.method ReflectliteType.elem #[.agg #[.pointer (some ⟨5, 117, none⟩)]]).run Tryz.prog w = .ok (.iface 227 (.agg #[.pointer (some ⟨5, 115, none⟩)])) w := by kernel_rfl
theorem as_implements (w : World) : (ReflectliteType.relation "Implements" ReflectliteType.implements_ #[.agg #[.pointer (some ⟨5, 115, none⟩)], .iface 227 (.agg #[.pointer (some ⟨5, 58, none⟩)])]).run Tryz.prog w = .ok (.bool true) w := by kernel_rfl
theorem as_typeOfP (v : Value) (w : World) : (ReflectliteType.typeOf #[.iface 115 v]).run Tryz.prog w = .ok (.iface 227 (.agg #[.pointer (some ⟨5, 115, none⟩)])) w := by kernel_rfl
theorem as_assignP (w : World) : (ReflectliteType.relation "AssignableTo" ReflectliteType.assignableTo #[.agg #[.pointer (some ⟨5, 115, none⟩)], .iface 227 (.agg #[.pointer (some ⟨5, 115, none⟩)])]).run Tryz.prog w = .ok (.bool true) w := by kernel_rfl
theorem as_assignE (w : World) : (ReflectliteType.relation "AssignableTo" ReflectliteType.assignableTo #[.agg #[.pointer (some ⟨5, 338, none⟩)], .iface 227 (.agg #[.pointer (some ⟨5, 115, none⟩)])]).run Tryz.prog w = .ok (.bool false) w := by kernel_rfl
theorem as_valueOfP (a : Addr) (x : Int) (w : World) : (ReflectliteValue.unpack (.iface 115 (.agg #[.iface 338 (.pointer (some a)), .int .i64 x]))).run Tryz.prog w
    = .ok (.agg #[.pointer (some ⟨5, 115, none⟩), .pointer (some ⟨w.heap.size, 0, none⟩), .int .u64 153]) (w.alloc (.cells #[.iface 338 (.pointer (some a)), .int .i64 x] 115)) := by kernel_rfl
theorem as_elemOf (w : World) : (Rtype.elem? 117).run Tryz.prog w = .ok (some 115) w := by kernel_rfl
theorem as_mk (p : Addr) (w : World) : (ReflectliteValue.mk 115 p ReflectliteValue.flagAddr).run Tryz.prog w = .ok (.agg #[.pointer (some ⟨5, 115, none⟩), .pointer (some p), .int .u64 409]) w := by kernel_rfl
theorem as_partsA (a : Addr) (w : World) : (ReflectliteValue.parts (.agg #[.pointer (some ⟨5, 115, none⟩), .pointer (some a), .int .u64 409])).run Tryz.prog w = .ok (some (115, a, 409)) w := by kernel_rfl
theorem as_partsB (a : Addr) (w : World) : (ReflectliteValue.parts (.agg #[.pointer (some ⟨5, 115, none⟩), .pointer (some a), .int .u64 153])).run Tryz.prog w = .ok (some (115, a, 153)) w := by kernel_rfl
theorem as_direct (w : World) : (Rtype.directlyAssignable 115 115).run Tryz.prog w = .ok true w := by kernel_rfl
end Go.Proofs.YtdfbjnachakkhaaGreatDoor

namespace Go.Proofs.YtdfbjnachakkhaaGreatDoor
open Go.RowKit Go.Extern.Stop Go.Stop Go.Extern
set_option linter.unusedVariables false
theorem no_asE (v : Value) (xT : TypeId) (w : World) : (Instr.typeAssert (.iface 338 v) xT 231 true).run Tryz.prog w = .ok (.tuple #[.nilIface, .bool false]) w := run_typeAssert_lacksB Tryz.underlying231 (by kernel_rfl) (by kernel_rfl) v xT w
theorem as_isNil (a p : Addr) (W : World) (ha : W.cell? a = some (.pointer (some p))) :
    (ReflectliteValue.method (ReflectliteValue.valueError "reflectlite.Value.IsNil" 0) ReflectliteValue.isNil #[.agg #[.pointer (some ⟨5, 117, none⟩), .pointer (some a), .int .u64 150]]).run Tryz.prog W = .ok (.bool false) W := by
  delta ReflectliteValue.method ReflectliteValue.method.match_2
  simp [Array.getLit, as_partsP, ReflectliteValue.isNil, loadVar, isAgg, underlying, Tryz.underlying117, ha, Result.andThen]
theorem as_elemV (a p : Addr) (W : World) (ha : W.cell? a = some (.pointer (some p))) :
    (ReflectliteValue.method (ReflectliteValue.valueError "reflectlite.Value.Elem" 0) ReflectliteValue.elem #[.agg #[.pointer (some ⟨5, 117, none⟩), .pointer (some a), .int .u64 150]]).run Tryz.prog W
      = .ok (.agg #[.pointer (some ⟨5, 115, none⟩), .pointer (some p), .int .u64 409]) W := by
  delta ReflectliteValue.method ReflectliteValue.method.match_2
  simp [Array.getLit, as_partsP, ReflectliteValue.elem, loadVar, isAgg, underlying, Tryz.underlying117, ha, Result.andThen, as_elemOf, as_mk]
theorem as_set (tb bb : Nat) (a : Addr) (x : Int) (o0 o1 : Value) (W : World) (hb0 : W.cell? ⟨bb, 0, none⟩ = some (.iface 338 (.pointer (some a)))) (hb1 : W.cell? ⟨bb, 1, none⟩ = some (.int .i64 x)) (ht0 : W.cell? ⟨tb, 0, none⟩ = some o0) (ht1 : W.cell? ⟨tb, 1, none⟩ = some o1) (hf0 : W.frozen? ⟨tb, 0, none⟩ = false) (hf1 : W.frozen? ⟨tb, 1, none⟩ = false) :
    (ReflectliteValue.set #[.agg #[.pointer (some ⟨5, 115, none⟩), .pointer (some ⟨tb, 0, none⟩), .int .u64 409], .agg #[.pointer (some ⟨5, 115, none⟩), .pointer (some ⟨bb, 0, none⟩), .int .u64 153]]).run Tryz.prog W
      = .ok (.tuple #[]) ((W.setCell ⟨tb, 0, none⟩ (.iface 338 (.pointer (some a)))).setCell ⟨tb, 1, none⟩ (.int .i64 x)) := by
  delta ReflectliteValue.set ReflectliteValue.set.match_3
  simp [Array.getLit, as_partsA, as_partsB, ReflectliteValue.flagAddr, loadVar, isAgg, underlying, Tryz.underlying115, Result.andThen, as_direct, loadCells, loadCellsFrom, hb0, hb1, storeVar, Value.cells, storeCells, Addr.add]
  rw [run_store Tryz.prog W ⟨tb, 0, none⟩ _ _ (by rfl)]
  simp only [ht0, hf0]
  have ht1' : (W.setCell ⟨tb, 0, none⟩ (.iface 338 (.pointer (some a)))).cell? ⟨tb, 1, none⟩ = some o1 := by rw [World.cell?_setCell_other _ _ _ _ (by simp)]; exact ht1
  have hf1' : (W.setCell ⟨tb, 0, none⟩ (.iface 338 (.pointer (some a)))).frozen? ⟨tb, 1, none⟩ = false := by rw [World.frozen?_setCell]; exact hf1
  simp only [Bool.false_eq_true, if_false]
  rw [run_store Tryz.prog (W.setCell ⟨tb, 0, none⟩ (.iface 338 (.pointer (some a)))) ⟨tb, 1, none⟩ _ _ (by rfl)]
  simp [ht1', hf1']
set_option maxRecDepth 100000 in
set_option maxHeartbeats 4000000 in
theorem as_miss (a : Addr) (tb : Nat) (w : World) (hg : w.cell? ⟨3, 0, none⟩ = some (.iface 227 (.agg #[typeHandle Tryz.prog 58]))) :
    Calls Tryz.prog 45 #[.iface 338 (.pointer (some a)), .iface 117 (.pointer (some ⟨tb, 0, none⟩))] w fun e w' => e = .returned (.bool false) ∧ w.grownBy w' none := by
  have h6 := @run_callFunc_extern Tryz.prog 85 _ (fun args => ReflectliteValue.unpack (args.getD 0 (.tuple #[]))) Tryz.func85 (by kernel_rfl) (by kernel_rfl) (by kernel_rfl) (by kernel_rfl)
  have h7 := @run_callFunc_extern Tryz.prog 86 _ (ReflectliteValue.methodAny (ReflectliteValue.valueError "reflectlite.Value.Type" 0) (fun t _ _ _ => ReflectliteType.toType t)) Tryz.func86 (by kernel_rfl) (by kernel_rfl) (by kernel_rfl) (by kernel_rfl)
  have h8 := @run_callFunc_extern Tryz.prog 87 _ (ReflectliteValue.method (ReflectliteValue.valueError "reflectlite.Value.IsNil" 0) ReflectliteValue.isNil) Tryz.func87 (by kernel_rfl) (by kernel_rfl) (by kernel_rfl) (by kernel_rfl)
  have h27 := @run_callFunc_extern Tryz.prog 236 _ kindX Tryz.func236 (by kernel_rfl) (by kernel_rfl) (by kernel_rfl) (by kernel_rfl)
  have h37 := @run_callFunc_extern Tryz.prog 248 _ (ReflectliteType.method ReflectliteType.elem) Tryz.func248 (by kernel_rfl) (by kernel_rfl) (by kernel_rfl) (by kernel_rfl)
  have h38 := @run_callFunc_extern Tryz.prog 249 _ (ReflectliteType.relation "Implements" ReflectliteType.implements_) Tryz.func249 (by kernel_rfl) (by kernel_rfl) (by kernel_rfl) (by kernel_rfl)
  have h10 := @run_callFunc_extern Tryz.prog 89 _ ReflectliteType.typeOf Tryz.func89 (by kernel_rfl) (by kernel_rfl) (by kernel_rfl) (by kernel_rfl)
  have h35 := @run_callFunc_extern Tryz.prog 246 _ (ReflectliteType.relation "AssignableTo" ReflectliteType.assignableTo) Tryz.func246 (by kernel_rfl) (by kernel_rfl) (by kernel_rfl) (by kernel_rfl)
  have h11 := @run_callFunc_extern Tryz.prog 124 _ (ReflectliteValue.method (ReflectliteValue.valueError "reflectlite.Value.Elem" 0) ReflectliteValue.elem) Tryz.func124 (by kernel_rfl) (by kernel_rfl) (by kernel_rfl) (by kernel_rfl)
  have h12 := @run_callFunc_extern Tryz.prog 125 _ ReflectliteValue.set Tryz.func125 (by kernel_rfl) (by kernel_rfl) (by kernel_rfl) (by kernel_rfl)
  have f6 := as_valueOf
  have f7 := as_type
  have mK := as_methodKind
  have mE := as_methodElem
  have mI := as_methodImplements
  have mA := as_methodAssignable
  have k27 := as_kindP
  have k25 := as_kindS
  have e27 := as_elem
  have i25 := as_implements
  have hh : typeHandle Tryz.prog 58 = .pointer (some ⟨5, 58, none⟩) := by kernel_rfl
  rw [hh] at hg
  have n8 := as_isNil ⟨w.heap.size, 0, none⟩ ⟨tb, 0, none⟩ ((w.alloc (.cells #[.pointer (some ⟨tb, 0, none⟩)] 117)).alloc (.cells #[.pointer (some ⟨5, 117, none⟩), .pointer (some ⟨w.heap.size, 0, none⟩), .int .u64 150] 177)) (by simp)
  have hlt : 3 < w.heap.size := glob_lt hg
  have hg2 : ((w.alloc (.cells #[.pointer (some ⟨tb, 0, none⟩)] 117)).alloc (.cells #[.pointer (some ⟨5, 117, none⟩), .pointer (some ⟨w.heap.size, 0, none⟩), .int .u64 150] 177)).cell? ⟨3, 0, none⟩ = some (.iface 227 (.agg #[.pointer (some ⟨5, 58, none⟩)])) := by
    rw [World.cell?_alloc_lt _ _ ⟨3, 0, none⟩ (by simp; omega), World.cell?_alloc_lt _ _ ⟨3, 0, none⟩ hlt]; exact hg
  have tO := is_typeOf
  have aE := as_assignE
  have nA := no_asE
  have uE := no_unwrapE
  have vE := no_unwrapsE
  go_enter Tryz.func45, Tryz.ntmps45
  go_wp2
  refine wp_loop_rounds 1 ?_
  rw [rounds_succ]
  go_wp2
  go_ret
  exact ⟨rfl, fr_both (fr_both (fr_alloc _ _ _) (fr_alloc _ _ _)) (fr_alloc _ _ _)⟩
set_option maxRecDepth 100000 in
set_option maxHeartbeats 4000000 in
theorem as_hit (a : Addr) (x : Int) (tb : Nat) (o0 o1 : Value) (w : World) (hg : w.cell? ⟨3, 0, none⟩ = some (.iface 227 (.agg #[typeHandle Tryz.prog 58]))) (ht0 : w.cell? ⟨tb, 0, none⟩ = some o0) (ht1 : w.cell? ⟨tb, 1, none⟩ = some o1) (hf0 : w.frozen? ⟨tb, 0, none⟩ = false) (hf1 : w.frozen? ⟨tb, 1, none⟩ = false) :
    Calls Tryz.prog 45 #[.iface 115 (.agg #[.iface 338 (.pointer (some a)), .int .i64 x]), .iface 117 (.pointer (some ⟨tb, 0, none⟩))] w fun e w' => e = .returned (.bool true) ∧ w.grownBy w' (some tb) ∧ w'.cell? ⟨tb, 1, none⟩ = some (.int .i64 x) := by
  have h6 := @run_callFunc_extern Tryz.prog 85 _ (fun args => ReflectliteValue.unpack (args.getD 0 (.tuple #[]))) Tryz.func85 (by kernel_rfl) (by kernel_rfl) (by kernel_rfl) (by kernel_rfl)
  have h7 := @run_callFunc_extern Tryz.prog 86 _ (ReflectliteValue.methodAny (ReflectliteValue.valueError "reflectlite.Value.Type" 0) (fun t _ _ _ => ReflectliteType.toType t)) Tryz.func86 (by kernel_rfl) (by kernel_rfl) (by kernel_rfl) (by kernel_rfl)
  have h8 := @run_callFunc_extern Tryz.prog 87 _ (ReflectliteValue.method (ReflectliteValue.valueError "reflectlite.Value.IsNil" 0) ReflectliteValue.isNil) Tryz.func87 (by kernel_rfl) (by kernel_rfl) (by kernel_rfl) (by kernel_rfl)
  have h27 := @run_callFunc_extern Tryz.prog 236 _ kindX Tryz.func236 (by kernel_rfl) (by kernel_rfl) (by kernel_rfl) (by kernel_rfl)
  have h37 := @run_callFunc_extern Tryz.prog 248 _ (ReflectliteType.method ReflectliteType.elem) Tryz.func248 (by kernel_rfl) (by kernel_rfl) (by kernel_rfl) (by kernel_rfl)
  have h38 := @run_callFunc_extern Tryz.prog 249 _ (ReflectliteType.relation "Implements" ReflectliteType.implements_) Tryz.func249 (by kernel_rfl) (by kernel_rfl) (by kernel_rfl) (by kernel_rfl)
  have h10 := @run_callFunc_extern Tryz.prog 89 _ ReflectliteType.typeOf Tryz.func89 (by kernel_rfl) (by kernel_rfl) (by kernel_rfl) (by kernel_rfl)
  have h35 := @run_callFunc_extern Tryz.prog 246 _ (ReflectliteType.relation "AssignableTo" ReflectliteType.assignableTo) Tryz.func246 (by kernel_rfl) (by kernel_rfl) (by kernel_rfl) (by kernel_rfl)
  have h11 := @run_callFunc_extern Tryz.prog 124 _ (ReflectliteValue.method (ReflectliteValue.valueError "reflectlite.Value.Elem" 0) ReflectliteValue.elem) Tryz.func124 (by kernel_rfl) (by kernel_rfl) (by kernel_rfl) (by kernel_rfl)
  have h12 := @run_callFunc_extern Tryz.prog 125 _ ReflectliteValue.set Tryz.func125 (by kernel_rfl) (by kernel_rfl) (by kernel_rfl) (by kernel_rfl)
  have f6 := as_valueOf
  have f7 := as_type
  have mK := as_methodKind
  have mE := as_methodElem
  have mI := as_methodImplements
  have mA := as_methodAssignable
  have k27 := as_kindP
  have k25 := as_kindS
  have e27 := as_elem
  have i25 := as_implements
  have hh : typeHandle Tryz.prog 58 = .pointer (some ⟨5, 58, none⟩) := by kernel_rfl
  rw [hh] at hg
  have n8 := as_isNil ⟨w.heap.size, 0, none⟩ ⟨tb, 0, none⟩ ((w.alloc (.cells #[.pointer (some ⟨tb, 0, none⟩)] 117)).alloc (.cells #[.pointer (some ⟨5, 117, none⟩), .pointer (some ⟨w.heap.size, 0, none⟩), .int .u64 150] 177)) (by simp)
  have hlt : 3 < w.heap.size := glob_lt hg
  have hg2 : ((w.alloc (.cells #[.pointer (some ⟨tb, 0, none⟩)] 117)).alloc (.cells #[.pointer (some ⟨5, 117, none⟩), .pointer (some ⟨w.heap.size, 0, none⟩), .int .u64 150] 177)).cell? ⟨3, 0, none⟩ = some (.iface 227 (.agg #[.pointer (some ⟨5, 58, none⟩)])) := by
    rw [World.cell?_alloc_lt _ _ ⟨3, 0, none⟩ (by simp; omega), World.cell?_alloc_lt _ _ ⟨3, 0, none⟩ hlt]; exact hg
  have tO := as_typeOfP
  have aP := as_assignP
  have vP := as_valueOfP
  have htl : tb < w.heap.size := glob_lt ht0
  have el := as_elemV ⟨w.heap.size, 0, none⟩ ⟨tb, 0, none⟩ (((w.alloc (.cells #[.pointer (some ⟨tb, 0, none⟩)] 117)).alloc (.cells #[.pointer (some ⟨5, 117, none⟩), .pointer (some ⟨w.heap.size, 0, none⟩), .int .u64 150] 177)).alloc (.cells #[.pointer (some ⟨5, 117, none⟩), .pointer (some ⟨w.heap.size, 0, none⟩), .int .u64 150] 177)) (by rw [World.cell?_alloc_lt _ _ ⟨w.heap.size, 0, none⟩ (by simp; omega)]; simp)
  have up : ∀ j o, w.cell? ⟨tb, j, none⟩ = some o → ((((w.alloc (.cells #[.pointer (some ⟨tb, 0, none⟩)] 117)).alloc (.cells #[.pointer (some ⟨5, 117, none⟩), .pointer (some ⟨w.heap.size, 0, none⟩), .int .u64 150] 177)).alloc (.cells #[.pointer (some ⟨5, 117, none⟩), .pointer (some ⟨w.heap.size, 0, none⟩), .int .u64 150] 177)).alloc (.cells #[.iface 338 (.pointer (some a)), .int .i64 x] 115)).cell? ⟨tb, j, none⟩ = some o := fun j o h => by
    rw [World.cell?_alloc_lt _ _ ⟨tb, j, none⟩ (by simp; omega), World.cell?_alloc_lt _ _ ⟨tb, j, none⟩ (by simp; omega), World.cell?_alloc_lt _ _ ⟨tb, j, none⟩ (by simp; omega), World.cell?_alloc_lt _ _ ⟨tb, j, none⟩ htl]; exact h
  have uf : ∀ j, w.frozen? ⟨tb, j, none⟩ = false → ((((w.alloc (.cells #[.pointer (some ⟨tb, 0, none⟩)] 117)).alloc (.cells #[.pointer (some ⟨5, 117, none⟩), .pointer (some ⟨w.heap.size, 0, none⟩), .int .u64 150] 177)).alloc (.cells #[.pointer (some ⟨5, 117, none⟩), .pointer (some ⟨w.heap.size, 0, none⟩), .int .u64 150] 177)).alloc (.cells #[.iface 338 (.pointer (some a)), .int .i64 x] 115)).frozen? ⟨tb, j, none⟩ = false := fun j h => by
    rw [World.frozen?_alloc_old _ _ ⟨tb, j, none⟩ (by simp; omega), World.frozen?_alloc_old _ _ ⟨tb, j, none⟩ (by simp; omega), World.frozen?_alloc_old _ _ ⟨tb, j, none⟩ (by simp; omega), World.frozen?_alloc_old _ _ ⟨tb, j, none⟩ (Nat.ne_of_lt htl)]; exact h
  have st := as_set tb (w.heap.size + 1 + 1 + 1) a x o0 o1 ((((w.alloc (.cells #[.pointer (some ⟨tb, 0, none⟩)] 117)).alloc (.cells #[.pointer (some ⟨5, 117, none⟩), .pointer (some ⟨w.heap.size, 0, none⟩), .int .u64 150] 177)).alloc (.cells #[.pointer (some ⟨5, 117, none⟩), .pointer (some ⟨w.heap.size, 0, none⟩), .int .u64 150] 177)).alloc (.cells #[.iface 338 (.pointer (some a)), .int .i64 x] 115))
    (by rw [World.cell?_alloc_at _ _ _ _ (by simp)]; rfl) (by rw [World.cell?_alloc_at _ _ _ _ (by simp)]; rfl) (up 0 o0 ht0) (up 1 o1 ht1) (uf 0 hf0) (uf 1 hf1)
  have HT1 := hide (up 1 o1 ht1)
  clear up uf
  go_enter Tryz.func45, Tryz.ntmps45
  go_wp2
  refine wp_loop_rounds 1 ?_
  rw [rounds_succ]
  go_wp2
  go_ret
  refine ⟨rfl, ?_, ?_⟩
  · exact fr_both (fr_both (fr_both (fr_both (fr_both (fr_both (fr_alloc _ _ _) (fr_alloc _ _ _)) (fr_alloc _ _ _)) (fr_alloc _ _ _)) (fr_set _ _ _ _)) (fr_set _ _ _ _)) (fr_refl _ _)
  · exact World.cell?_setCell_same _ _ _ (by rw [World.cell?_setCell_other _ _ _ _ (by simp)]; exact HT1.out)
end Go.Proofs.YtdfbjnachakkhaaGreatDoor

namespace Go.Proofs.YtdfbjnachakkhaaGreatDoor
open Go.ChangeShapes Go.WideShapes Go.ChangeAt Go.RowKit
set_option linter.unusedVariables false
/-- the errors' own blocks -/
structure ErrB (w : World) (L T M : Addr) : Prop where
  l : ∃ c t, w.heap[L.block]? = some (.cells c t (0, 0))
  t : ∃ c t, w.heap[T.block]? = some (.cells c t (0, 0))
  m : ∃ c t, w.heap[M.block]? = some (.cells c t (0, 0))
theorem blk_kept {w w' : World} {a : Addr} {row : Option Nat} (h : ∃ c t, w.heap[a.block]? = some (.cells c t (0, 0))) (hg : w.grownBy w' row) (hne : some a.block ≠ row) : ∃ c t, w'.heap[a.block]? = some (.cells c t (0, 0)) := by
  obtain ⟨c, t, h⟩ := h
  exact ⟨c, t, by rw [hg.block _ (Array.getElem?_eq_some_iff.1 h).1 hne]; exact h⟩
theorem ErrB.fresh {w w' : World} {L T M : Addr} (h : ErrB w L T M) (hg : w.grownBy w' none) : ErrB w' L T M := ⟨blk_kept h.l hg (by simp), blk_kept h.t hg (by simp), blk_kept h.m hg (by simp)⟩
theorem blk_lt {w : World} {a : Addr} (h : ∃ c t, w.heap[a.block]? = some (.cells c t (0, 0))) : a.block < w.heap.size := by
  obtain ⟨c, t, h⟩ := h
  exact (Array.getElem?_eq_some_iff.1 h).1
theorem ErrB.set {w w' : World} {L T M : Addr} (h : ErrB w L T M) {N : Nat} {w0 : World} (h0 : ErrB w0 L T M) (hN : w0.heap.size ≤ N) (hg : w.grownBy w' (some N)) : ErrB w' L T M := by
  have a := blk_lt h0.l
  have b := blk_lt h0.t
  have c := blk_lt h0.m
  exact ⟨blk_kept h.l hg (by simp; omega), blk_kept h.t hg (by simp; omega), blk_kept h.m hg (by simp; omega)⟩
/-- an error's number, as it is told -/
def errN (e : Nat) : Nat := if e = 1 then 1 else if e = 7 then 7 else 2
/-- errors.Is of a placed error -/
theorem is_placed (a b : Addr) (x : Int) (w : World) (ha : ∃ c t, w.heap[a.block]? = some (.cells c t (0, 0))) (hb : ∃ c t, w.heap[b.block]? = some (.cells c t (0, 0))) :
    Calls Tryz.prog 46 #[.iface 115 (.agg #[.iface 338 (.pointer (some a)), .int .i64 x]), .iface 338 (.pointer (some b))] w fun e w' => e = .returned (.bool (decide (a = b))) ∧ w.grownBy w' none := by
  by_cases h : a = b
  · subst h
    refine (is_placed_same a x w).mono ?_
    rintro e w' ⟨rfl, g⟩
    exact ⟨by simp, g⟩
  · obtain ⟨ca, ta, ha⟩ := ha
    obtain ⟨cb, tb, hb⟩ := hb
    refine (is_placed_other a b x ca cb ta tb w h ha hb).mono ?_
    rintro e w' ⟨rfl, g⟩
    exact ⟨by simp [h], g⟩
set_option maxRecDepth 100000 in
set_option maxHeartbeats 2000000 in
theorem tell_nil (L T M : Addr) (w : World) (hE : Errs w L T M) :
    Calls Tryz.prog 24 #[.nilIface] w fun en w' => en = .returned (.tuple #[.int .i64 0, .int .i64 0]) ∧ w.grownBy w' none := by
  have HE := hide hE
  clear hE
  go_enter Tryz.func24, Tryz.ntmps24
  go_wp2_with fail
  generalize hw0 : World.alloc _ _ = w0
  have HE0 : Hid (Errs w0 L T M) := by rw [← hw0]; exact HE.out.fresh (fr_alloc _ _ _)
  have HN0 : Hid (w.grownBy w0 none) := by rw [← hw0]; exact fr_alloc _ _ _
  clear hw0
  refine (as_nil _ _).mono ?_
  rintro e w1 ⟨rfl, rfl⟩
  have g0 := HE0.out.gl
  have g1 := HE0.out.gt
  have g2 := HE0.out.gm
  go_wp2_with fail
  refine (is_nil L _).mono ?_
  rintro e w1 ⟨rfl, rfl⟩
  go_wp2_with fail
  refine (is_nil T _).mono ?_
  rintro e w1 ⟨rfl, rfl⟩
  go_wp2_with fail
  refine (is_nil M _).mono ?_
  rintro e w1 ⟨rfl, rfl⟩
  go_wp2
  go_ret2
  exact ⟨rfl, HN0.out⟩
set_option maxRecDepth 100000 in
set_option maxHeartbeats 2000000 in
theorem tell_long (L T M : Addr) (w : World) (hE : Errs w L T M) :
    Calls Tryz.prog 24 #[.iface 338 (.pointer (some L))] w fun en w' => en = .returned (.tuple #[.int .i64 1, .int .i64 0]) ∧ w.grownBy w' none := by
  have HE := hide hE
  clear hE
  go_enter Tryz.func24, Tryz.ntmps24
  go_wp2_with fail
  generalize hw0 : World.alloc _ _ = w0
  have HE0 : Hid (Errs w0 L T M) := by rw [← hw0]; exact HE.out.fresh (fr_alloc _ _ _)
  have HN0 : Hid (w.grownBy w0 none) := by rw [← hw0]; exact fr_alloc _ _ _
  clear hw0
  refine (as_miss L w.heap.size _ HE0.out.gh).mono ?_
  rintro e w1 ⟨rfl, hg⟩
  have HE1 : Hid (Errs w1 L T M) := HE0.out.fresh hg
  have HN1 : Hid (w.grownBy w1 none) := fr_both HN0.out hg
  clear hg
  have g0 := HE1.out.gl
  go_wp2_with fail
  refine (is_same L _).mono ?_
  rintro e w2 ⟨rfl, rfl⟩
  go_wp2
  go_ret2
  exact ⟨rfl, HN1.out⟩
set_option maxRecDepth 100000 in
set_option maxHeartbeats 4000000 in
theorem tell_err (L T M : Addr) (ec x : Nat) (w : World) (hE : Errs w L T M) (hB : ErrB w L T M) (hgt : gTop ≤ w.heap.size) :
    Calls Tryz.prog 24 #[errV L T M ec x] w fun en w' => en = .returned (.tuple #[.int .i64 (errN ec : Nat), .int .i64 (x : Nat)]) ∧ w.grownBy w' none := by
  have HE := hide hE
  have HB := hide hB
  obtain ⟨A, HA⟩ : ∃ A, Hid (errA L T M ec = A) := ⟨_, (rfl : _ = _)⟩
  have HAB : Hid (∀ w', ErrB w' L T M → ∃ c t, w'.heap[A.block]? = some (.cells c t (0, 0))) := by
    intro w' h
    rw [← HA.out]; unfold errA
    split
    · exact h.l
    · split
      · exact h.m
      · exact h.t
  have HCASE : Hid ((A = L ∧ errN ec = 1) ∨ (¬ A = L ∧ A = T ∧ errN ec = 2) ∨ (¬ A = L ∧ ¬ A = T ∧ A = M ∧ errN ec = 7)) := by
    have hh := HA.out
    have e1 := hE.lt
    have e2 := hE.lm
    have e3 := hE.tm
    show _ ∨ _
    unfold errA at hh
    unfold errN
    by_cases h1 : ec = 1
    · left; rw [if_pos h1] at hh ⊢; exact ⟨hh.symm, rfl⟩
    · rw [if_neg h1] at hh ⊢
      by_cases h7 : ec = 7
      · right; right
        rw [if_pos h7] at hh ⊢
        exact ⟨fun g => e2 (g.symm.trans hh.symm), fun g => e3 (g.symm.trans hh.symm), hh.symm, rfl⟩
      · right; left
        rw [if_neg h7] at hh ⊢
        exact ⟨fun g => e1 (g.symm.trans hh.symm), hh.symm, rfl⟩
  unfold errV
  rw [HA.out]
  clear hE hB
  go_enter Tryz.func24, Tryz.ntmps24
  go_wp2_with fail
  generalize hw0 : World.alloc _ _ = w0
  have HE0 : Hid (Errs w0 L T M) := by rw [← hw0]; exact HE.out.fresh (fr_alloc _ _ _)
  have HB0 : Hid (ErrB w0 L T M) := by rw [← hw0]; exact HB.out.fresh (fr_alloc _ _ _)
  have HX0 : Hid (Box w0 w.heap.size [.nilIface, .int .i64 0]) := by rw [← hw0]; exact Box.new _ _ _
  have HW0 := hide hw0.symm
  clear hw0
  refine (as_hit A x w.heap.size _ _ _ HE0.out.gh (HX0.out.c 0 _ rfl) (HX0.out.c 1 _ rfl) (HX0.out.f 0 _ rfl) (HX0.out.f 1 _ rfl)).mono ?_
  rintro e w1 ⟨rfl, hg, hx⟩
  have HE1 : Hid (Errs w1 L T M) := HE0.out.grown hg hgt
  have HB1 : Hid (ErrB w1 L T M) := HB0.out.set HB.out (Nat.le_refl _) hg
  have HN1 : Hid (w.grownBy w1 none) := fr_fresh rfl (by rw [← HW0.out]; exact hg)
  clear hg
  have g0 := HE1.out.gl
  go_wp2_with fail
  refine (is_placed A L x _ (HAB.out _ HB1.out) HB1.out.l).mono ?_
  rintro e w2 ⟨rfl, hg⟩
  have HE2 : Hid (Errs w2 L T M) := HE1.out.fresh hg
  have HB2 : Hid (ErrB w2 L T M) := HB1.out.fresh hg
  have HN2 : Hid (w.grownBy w2 none) := fr_both HN1.out hg
  clear hg g0 hx
  rcases HCASE.out with ⟨h1, hn⟩ | ⟨h1, h2, hn⟩ | ⟨h1, h2, h3, hn⟩
  · have HNN := hide hn
    rw [show decide (A = L) = true from by simp [h1]]
    clear h1 hn
    go_wp2
    go_ret2
    exact ⟨by rw [HNN.out]; rfl, HN2.out⟩
  · have HNN := hide hn
    rw [show decide (A = L) = false from by simp [h1]]
    have g1 := HE2.out.gt
    have HAT := hide h2
    clear h1 hn h2
    go_wp2_with fail
    refine (is_placed A T x _ (HAB.out _ HB2.out) HB2.out.t).mono ?_
    rintro e w3 ⟨rfl, hg⟩
    have HN3 : Hid (w.grownBy w3 none) := fr_both HN2.out hg
    clear hg g1
    rw [show decide (A = T) = true from by simp [HAT.out]]
    go_wp2
    go_ret2
    exact ⟨by rw [HNN.out]; rfl, HN3.out⟩
  · have HNN := hide hn
    rw [show decide (A = L) = false from by simp [h1]]
    have g1 := HE2.out.gt
    have HAT := hide h2
    have HAM := hide h3
    clear h1 hn h2 h3
    go_wp2_with fail
    refine (is_placed A T x _ (HAB.out _ HB2.out) HB2.out.t).mono ?_
    rintro e w3 ⟨rfl, hg⟩
    have HE3 : Hid (Errs w3 L T M) := HE2.out.fresh hg
    have HB3 : Hid (ErrB w3 L T M) := HB2.out.fresh hg
    have HN3 : Hid (w.grownBy w3 none) := fr_both HN2.out hg
    clear hg g1
    rw [show decide (A = T) = false from by simp [HAT.out]]
    have g2 := HE3.out.gm
    go_wp2_with fail
    refine (is_placed A M x _ (HAB.out _ HB3.out) HB3.out.m).mono ?_
    rintro e w4 ⟨rfl, hg⟩
    have HN4 : Hid (w.grownBy w4 none) := fr_both HN3.out hg
    clear hg g2
    rw [show decide (A = M) = true from by simp [HAM.out]]
    go_wp2
    go_ret2
    exact ⟨by rw [HNN.out]; rfl, HN4.out⟩
end Go.Proofs.YtdfbjnachakkhaaGreatDoor
