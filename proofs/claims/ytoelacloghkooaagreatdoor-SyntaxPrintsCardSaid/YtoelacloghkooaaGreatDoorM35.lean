import Derived.Test.YtoelacloghkooaaGreatDoorM32
import Derived.LaidEql
import Derived.Stop.Asserts
import Derived.RowKitTokens
/-
  errors.Is over the program's errors, by its contracts (after the worked example of the guide).
-/
namespace Go.Proofs.YtoelacloghkooaaGreatDoor
open Go.RowKit Go.Extern.Stop Go.Stop Go.Extern
set_option linter.unusedVariables false
theorem is_typeOf (v : Value) (w : World) : (Extern.ReflectliteType.typeOf #[.iface 246 v]).run Tryz.prog w = .ok (.iface 181 (.agg #[.pointer (some ⟨6, 246, none⟩)])) w := by kernel_rfl
/-- the model's entry -/
noncomputable def cmpX : Array Value → Sem Value := (Extern.find Tryz.f164).getD (fun _ => pure .nilIface)
theorem is_comparable (w : World) : (cmpX #[.agg #[.pointer (some ⟨6, 246, none⟩)]]).run Tryz.prog w = .ok (.bool true) w := by kernel_rfl
theorem is_methodComparable (v : Value) (w : World) : (Go.method 395 181 v "Comparable").run Tryz.prog w = .ok (164, v) w := by kernel_rfl
theorem is_comp : (Tryz.prog.info? 246).map (·.comparable) = some true := by kernel_rfl
theorem is_size : (Tryz.prog.info? 284).map (·.size) = some 1 := by kernel_rfl
theorem no_isE (v : Value) (xT : TypeId) (w : World) : (Instr.typeAssert (.iface 246 v) xT 193 true).run Tryz.prog w = .ok (.tuple #[.nilIface, .bool false]) w := run_typeAssert_lacksB Tryz.underlying193 (by kernel_rfl) (by kernel_rfl) v xT w
theorem no_unwrapE (v : Value) (xT : TypeId) (w : World) : (Instr.typeAssert (.iface 246 v) xT 188 true).run Tryz.prog w = .ok (.tuple #[.nilIface, .bool false]) w := run_typeAssert_lacksB Tryz.underlying188 (by kernel_rfl) (by kernel_rfl) v xT w
theorem no_unwrapsE (v : Value) (xT : TypeId) (w : World) : (Instr.typeAssert (.iface 246 v) xT 190 true).run Tryz.prog w = .ok (.tuple #[.nilIface, .bool false]) w := run_typeAssert_lacksB Tryz.underlying190 (by kernel_rfl) (by kernel_rfl) v xT w
theorem no_isP (v : Value) (xT : TypeId) (w : World) : (Instr.typeAssert (.iface 119 v) xT 193 true).run Tryz.prog w = .ok (.tuple #[.nilIface, .bool false]) w := run_typeAssert_lacksB Tryz.underlying193 (by kernel_rfl) (by kernel_rfl) v xT w
theorem has_unwrapP (v : Value) (xT : TypeId) (w : World) : (Instr.typeAssert (.iface 119 v) xT 188 true).run Tryz.prog w = .ok (.tuple #[.iface 119 v, .bool true]) w := run_typeAssert_hasB Tryz.underlying188 (by kernel_rfl) v xT w
theorem method_unwrapP (a b : Value) (w : World) : (Go.method 395 119 (.agg #[a, b]) "Unwrap").run Tryz.prog w = .ok (158, .agg #[a, b]) w := by kernel_rfl
set_option maxRecDepth 100000 in
theorem is_nil (b : Addr) (w : World) :
    Calls Tryz.prog 58 #[.nilIface, .iface 246 (.pointer (some b))] w fun e w' => e = .returned (.bool false) ∧ w = w' := by
  have hn := run_eql_iface_nil_left (P := Tryz.prog) w 246 (.pointer (some b)) Tryz.underlying75
  go_enter Tryz.func58, Tryz.ntmps58
  go_wp2
  go_ret
  exact ⟨rfl, rfl⟩
set_option maxRecDepth 100000 in
theorem is_same (a : Addr) (w : World) :
    Calls Tryz.prog 58 #[.iface 246 (.pointer (some a)), .iface 246 (.pointer (some a))] w fun e w' => e = .returned (.bool true) ∧ w = w' := by
  obtain ⟨i, hi, hcmp⟩ := Option.map_eq_some_iff.1 is_comp
  obtain ⟨j, hj, hjs⟩ := Option.map_eq_some_iff.1 is_size
  have h8 := @run_callFunc_extern Tryz.prog 83 _ Extern.ReflectliteType.typeOf Tryz.func83 (by kernel_rfl) (by kernel_rfl) (by kernel_rfl) (by kernel_rfl)
  have h32 := @run_callFunc_extern Tryz.prog 164 _ cmpX Tryz.func164 (by kernel_rfl) (by kernel_rfl) (by kernel_rfl) (by kernel_rfl)
  have tT := is_typeOf
  have cT := is_comparable
  have mR := is_methodComparable
  have heq := run_eql_iface_ptr_same (P := Tryz.prog) w a Tryz.underlying75 Tryz.underlying246 hi hcmp hj
  go_enter Tryz.func58, Tryz.ntmps58
  go_wp2
  refine wp_loop_rounds 1 ?_
  rw [rounds_succ]
  go_wp2
  go_ret
  exact ⟨rfl, rfl⟩
set_option maxRecDepth 100000 in
theorem is_other (a b : Addr) (ca cb : Array Value) (ta tb : TypeId) (w : World) (hne : a ≠ b) (ha : w.heap[a.block]? = some (.cells ca ta (0, 0))) (hb : w.heap[b.block]? = some (.cells cb tb (0, 0))) :
    Calls Tryz.prog 58 #[.iface 246 (.pointer (some a)), .iface 246 (.pointer (some b))] w fun e w' => e = .returned (.bool false) ∧ w = w' := by
  obtain ⟨i, hi, hcmp⟩ := Option.map_eq_some_iff.1 is_comp
  obtain ⟨j, hj, hjs⟩ := Option.map_eq_some_iff.1 is_size
  have h8 := @run_callFunc_extern Tryz.prog 83 _ Extern.ReflectliteType.typeOf Tryz.func83 (by kernel_rfl) (by kernel_rfl) (by kernel_rfl) (by kernel_rfl)
  have h32 := @run_callFunc_extern Tryz.prog 164 _ cmpX Tryz.func164 (by kernel_rfl) (by kernel_rfl) (by kernel_rfl) (by kernel_rfl)
  have tT := is_typeOf
  have cT := is_comparable
  have mR := is_methodComparable
  have nE := no_isE
  have uE := no_unwrapE
  have vE := no_unwrapsE
  have heq := run_eql_iface_ptr_other (P := Tryz.prog) w Tryz.underlying75 Tryz.underlying246 hi hcmp hj (by rw [hjs]; decide) hne ha hb
  go_enter Tryz.func58, Tryz.ntmps58
  go_wp2
  refine wp_loop_rounds 1 ?_
  rw [rounds_succ]
  go_wp2
  go_ret
  exact ⟨rfl, rfl⟩
set_option maxRecDepth 100000 in
theorem unwrap_any (a b : Value) (w : World) : Calls Tryz.prog 158 #[.agg #[a, b]] w fun e w' => e = .returned a ∧ w' = w.alloc (.cells #[a, b] 119) := by
  go_enter Tryz.func158, Tryz.ntmps158
  go_wp2
  go_ret
  exact ⟨rfl, rfl⟩
set_option maxRecDepth 100000 in
set_option maxHeartbeats 1000000 in
theorem is_placed_same (b : Addr) (x : Int) (w : World) :
    Calls Tryz.prog 58 #[.iface 119 (.agg #[.iface 246 (.pointer (some b)), .int .i64 x]), .iface 246 (.pointer (some b))] w fun e w' => e = .returned (.bool true) ∧ w.grownBy w' none := by
  obtain ⟨i, hi, hcmp⟩ := Option.map_eq_some_iff.1 is_comp
  obtain ⟨j, hj, hjs⟩ := Option.map_eq_some_iff.1 is_size
  have h8 := @run_callFunc_extern Tryz.prog 83 _ Extern.ReflectliteType.typeOf Tryz.func83 (by kernel_rfl) (by kernel_rfl) (by kernel_rfl) (by kernel_rfl)
  have h32 := @run_callFunc_extern Tryz.prog 164 _ cmpX Tryz.func164 (by kernel_rfl) (by kernel_rfl) (by kernel_rfl) (by kernel_rfl)
  have tT := is_typeOf
  have cT := is_comparable
  have mR := is_methodComparable
  have nE := no_isE
  have uE := no_unwrapE
  have vE := no_unwrapsE
  have nP := no_isP
  have uP := has_unwrapP
  have mU := method_unwrapP
  have hty := run_eql_iface_types (P := Tryz.prog) 119 246 (.agg #[.iface 246 (.pointer (some b)), .int .i64 x]) (.pointer (some b)) Tryz.underlying75 (by decide) w
  have heq := run_eql_iface_ptr_same (P := Tryz.prog) (w.alloc (.cells #[.iface 246 (.pointer (some b)), .int .i64 x] 119)) b Tryz.underlying75 Tryz.underlying246 hi hcmp hj
  go_enter Tryz.func58, Tryz.ntmps58
  go_wp2
  refine wp_loop_rounds 2 ?_
  rw [rounds_succ]
  go_wp2_with (go_at_call 158; refine (unwrap_any _ _ _).mono ?_; rintro e w1 ⟨rfl, rfl⟩)
  rw [rounds_succ]
  go_wp2
  go_ret
  exact ⟨rfl, fr_alloc _ _ _⟩
set_option maxRecDepth 100000 in
set_option maxHeartbeats 1000000 in
theorem is_placed_other (a b : Addr) (x : Int) (ca cb : Array Value) (ta tb : TypeId) (w : World) (hne : a ≠ b) (ha : w.heap[a.block]? = some (.cells ca ta (0, 0))) (hb : w.heap[b.block]? = some (.cells cb tb (0, 0))) :
    Calls Tryz.prog 58 #[.iface 119 (.agg #[.iface 246 (.pointer (some a)), .int .i64 x]), .iface 246 (.pointer (some b))] w fun e w' => e = .returned (.bool false) ∧ w.grownBy w' none := by
  obtain ⟨i, hi, hcmp⟩ := Option.map_eq_some_iff.1 is_comp
  obtain ⟨j, hj, hjs⟩ := Option.map_eq_some_iff.1 is_size
  have h8 := @run_callFunc_extern Tryz.prog 83 _ Extern.ReflectliteType.typeOf Tryz.func83 (by kernel_rfl) (by kernel_rfl) (by kernel_rfl) (by kernel_rfl)
  have h32 := @run_callFunc_extern Tryz.prog 164 _ cmpX Tryz.func164 (by kernel_rfl) (by kernel_rfl) (by kernel_rfl) (by kernel_rfl)
  have tT := is_typeOf
  have cT := is_comparable
  have mR := is_methodComparable
  have nE := no_isE
  have uE := no_unwrapE
  have vE := no_unwrapsE
  have nP := no_isP
  have uP := has_unwrapP
  have mU := method_unwrapP
  have hty := run_eql_iface_types (P := Tryz.prog) 119 246 (.agg #[.iface 246 (.pointer (some a)), .int .i64 x]) (.pointer (some b)) Tryz.underlying75 (by decide) w
  have ha2 : (w.alloc (.cells #[.iface 246 (.pointer (some a)), .int .i64 x] 119)).heap[a.block]? = some (.cells ca ta (0, 0)) := by rw [Below.heap_alloc _ _ _ (Array.getElem?_eq_some_iff.1 ha).1]; exact ha
  have hb2 : (w.alloc (.cells #[.iface 246 (.pointer (some a)), .int .i64 x] 119)).heap[b.block]? = some (.cells cb tb (0, 0)) := by rw [Below.heap_alloc _ _ _ (Array.getElem?_eq_some_iff.1 hb).1]; exact hb
  have heq := run_eql_iface_ptr_other (P := Tryz.prog) (w.alloc (.cells #[.iface 246 (.pointer (some a)), .int .i64 x] 119)) Tryz.underlying75 Tryz.underlying246 hi hcmp hj (by rw [hjs]; decide) hne ha2 hb2
  clear ha hb ha2 hb2 hne
  go_enter Tryz.func58, Tryz.ntmps58
  go_wp2
  refine wp_loop_rounds 2 ?_
  rw [rounds_succ]
  go_wp2_with (go_at_call 158; refine (unwrap_any _ _ _).mono ?_; rintro e w1 ⟨rfl, rfl⟩)
  rw [rounds_succ]
  go_wp2
  go_ret
  exact ⟨rfl, fr_alloc _ _ _⟩
end Go.Proofs.YtoelacloghkooaaGreatDoor
