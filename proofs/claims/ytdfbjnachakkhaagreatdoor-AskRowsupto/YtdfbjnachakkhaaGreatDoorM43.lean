import Derived.Test.YtdfbjnachakkhaaGreatDoorM42
import Derived.LaidEql
import Derived.Stop.Asserts
import Derived.RowKitTokens
namespace Go.Proofs.YtdfbjnachakkhaaGreatDoor
open Go.RowKit Go.Extern.Stop Go.Stop Go.Extern
set_option linter.unusedVariables false
theorem is_typeOf (v : Value) (w : World) : (Extern.ReflectliteType.typeOf #[.iface 338 v]).run Tryz.prog w = .ok (.iface 227 (.agg #[.pointer (some ⟨5, 338, none⟩)])) w := by kernel_rfl
/-- the model's entry -/
noncomputable def cmpX : Array Value → Sem Value := (Extern.find Tryz.f247).getD (fun _ => pure .nilIface)
theorem is_comparable (w : World) : (cmpX #[.agg #[.pointer (some ⟨5, 338, none⟩)]]).run Tryz.prog w = .ok (.bool true) w := by kernel_rfl
theorem is_methodComparable (v : Value) (w : World) : (Go.method 468 227 v "Comparable").run Tryz.prog w = .ok (247, v) w := by kernel_rfl
theorem is_comp : (Tryz.prog.info? 338).map (·.comparable) = some true := by kernel_rfl
theorem is_size : (Tryz.prog.info? 357).map (·.size) = some 1 := by kernel_rfl
theorem no_isE (v : Value) (xT : TypeId) (w : World) : (Instr.typeAssert (.iface 338 v) xT 239 true).run Tryz.prog w = .ok (.tuple #[.nilIface, .bool false]) w := run_typeAssert_lacksB Tryz.underlying239 (by kernel_rfl) (by kernel_rfl) v xT w
theorem no_unwrapE (v : Value) (xT : TypeId) (w : World) : (Instr.typeAssert (.iface 338 v) xT 234 true).run Tryz.prog w = .ok (.tuple #[.nilIface, .bool false]) w := run_typeAssert_lacksB Tryz.underlying234 (by kernel_rfl) (by kernel_rfl) v xT w
theorem no_unwrapsE (v : Value) (xT : TypeId) (w : World) : (Instr.typeAssert (.iface 338 v) xT 236 true).run Tryz.prog w = .ok (.tuple #[.nilIface, .bool false]) w := run_typeAssert_lacksB Tryz.underlying236 (by kernel_rfl) (by kernel_rfl) v xT w
theorem no_isP (v : Value) (xT : TypeId) (w : World) : (Instr.typeAssert (.iface 115 v) xT 239 true).run Tryz.prog w = .ok (.tuple #[.nilIface, .bool false]) w := run_typeAssert_lacksB Tryz.underlying239 (by kernel_rfl) (by kernel_rfl) v xT w
theorem has_unwrapP (v : Value) (xT : TypeId) (w : World) : (Instr.typeAssert (.iface 115 v) xT 234 true).run Tryz.prog w = .ok (.tuple #[.iface 115 v, .bool true]) w := run_typeAssert_hasB Tryz.underlying234 (by kernel_rfl) v xT w
theorem method_unwrapP (a b : Value) (w : World) : (Go.method 468 115 (.agg #[a, b]) "Unwrap").run Tryz.prog w = .ok (240, .agg #[a, b]) w := by kernel_rfl
set_option maxRecDepth 100000 in
theorem is_nil (b : Addr) (w : World) :
    Calls Tryz.prog 46 #[.nilIface, .iface 338 (.pointer (some b))] w fun e w' => e = .returned (.bool false) ∧ w = w' := by
  have hn := run_eql_iface_nil_left (P := Tryz.prog) w 338 (.pointer (some b)) Tryz.underlying58
  go_enter Tryz.func46, Tryz.ntmps46
  go_wp2
  go_ret
  exact ⟨rfl, rfl⟩
set_option maxRecDepth 100000 in
theorem is_same (a : Addr) (w : World) :
    Calls Tryz.prog 46 #[.iface 338 (.pointer (some a)), .iface 338 (.pointer (some a))] w fun e w' => e = .returned (.bool true) ∧ w = w' := by
  obtain ⟨i, hi, hcmp⟩ := Option.map_eq_some_iff.1 is_comp
  obtain ⟨j, hj, hjs⟩ := Option.map_eq_some_iff.1 is_size
  have h8 := @run_callFunc_extern Tryz.prog 89 _ Extern.ReflectliteType.typeOf Tryz.func89 (by kernel_rfl) (by kernel_rfl) (by kernel_rfl) (by kernel_rfl)
  have h32 := @run_callFunc_extern Tryz.prog 247 _ cmpX Tryz.func247 (by kernel_rfl) (by kernel_rfl) (by kernel_rfl) (by kernel_rfl)
  have tT := is_typeOf
  have cT := is_comparable
  have mR := is_methodComparable
  have heq := run_eql_iface_ptr_same (P := Tryz.prog) w a Tryz.underlying58 Tryz.underlying338 hi hcmp hj
  go_enter Tryz.func46, Tryz.ntmps46
  go_wp2
  refine wp_loop_rounds 1 ?_
  rw [rounds_succ]
  go_wp2
  go_ret
  exact ⟨rfl, rfl⟩
set_option maxRecDepth 100000 in
theorem unwrap_any (a b : Value) (w : World) : Calls Tryz.prog 240 #[.agg #[a, b]] w fun e w' => e = .returned a ∧ w' = w.alloc (.cells #[a, b] 115) := by
  go_enter Tryz.func240, Tryz.ntmps240
  go_wp2
  go_ret
  exact ⟨rfl, rfl⟩
set_option maxRecDepth 100000 in
set_option maxHeartbeats 1000000 in
theorem is_placed_same (b : Addr) (x : Int) (w : World) :
    Calls Tryz.prog 46 #[.iface 115 (.agg #[.iface 338 (.pointer (some b)), .int .i64 x]), .iface 338 (.pointer (some b))] w fun e w' => e = .returned (.bool true) ∧ w.grownBy w' none := by
  obtain ⟨i, hi, hcmp⟩ := Option.map_eq_some_iff.1 is_comp
  obtain ⟨j, hj, hjs⟩ := Option.map_eq_some_iff.1 is_size
  have h8 := @run_callFunc_extern Tryz.prog 89 _ Extern.ReflectliteType.typeOf Tryz.func89 (by kernel_rfl) (by kernel_rfl) (by kernel_rfl) (by kernel_rfl)
  have h32 := @run_callFunc_extern Tryz.prog 247 _ cmpX Tryz.func247 (by kernel_rfl) (by kernel_rfl) (by kernel_rfl) (by kernel_rfl)
  have tT := is_typeOf
  have cT := is_comparable
  have mR := is_methodComparable
  have nE := no_isE
  have uE := no_unwrapE
  have vE := no_unwrapsE
  have nP := no_isP
  have uP := has_unwrapP
  have mU := method_unwrapP
  have hty := run_eql_iface_types (P := Tryz.prog) 115 338 (.agg #[.iface 338 (.pointer (some b)), .int .i64 x]) (.pointer (some b)) Tryz.underlying58 (by decide) w
  have heq := run_eql_iface_ptr_same (P := Tryz.prog) (w.alloc (.cells #[.iface 338 (.pointer (some b)), .int .i64 x] 115)) b Tryz.underlying58 Tryz.underlying338 hi hcmp hj
  go_enter Tryz.func46, Tryz.ntmps46
  go_wp2
  refine wp_loop_rounds 2 ?_
  rw [rounds_succ]
  go_wp2_with (go_at_call 240; refine (unwrap_any _ _ _).mono ?_; rintro e w1 ⟨rfl, rfl⟩)
  rw [rounds_succ]
  go_wp2
  go_ret
  exact ⟨rfl, fr_alloc _ _ _⟩
set_option maxRecDepth 100000 in
set_option maxHeartbeats 1000000 in
theorem is_placed_other (a b : Addr) (x : Int) (ca cb : Array Value) (ta tb : TypeId) (w : World) (hne : a ≠ b) (ha : w.heap[a.block]? = some (.cells ca ta (0, 0))) (hb : w.heap[b.block]? = some (.cells cb tb (0, 0))) :
    Calls Tryz.prog 46 #[.iface 115 (.agg #[.iface 338 (.pointer (some a)), .int .i64 x]), .iface 338 (.pointer (some b))] w fun e w' => e = .returned (.bool false) ∧ w.grownBy w' none := by
  obtain ⟨i, hi, hcmp⟩ := Option.map_eq_some_iff.1 is_comp
  obtain ⟨j, hj, hjs⟩ := Option.map_eq_some_iff.1 is_size
  have h8 := @run_callFunc_extern Tryz.prog 89 _ Extern.ReflectliteType.typeOf Tryz.func89 (by kernel_rfl) (by kernel_rfl) (by kernel_rfl) (by kernel_rfl)
  have h32 := @run_callFunc_extern Tryz.prog 247 _ cmpX Tryz.func247 (by kernel_rfl) (by kernel_rfl) (by kernel_rfl) (by kernel_rfl)
  have tT := is_typeOf
  have cT := is_comparable
  have mR := is_methodComparable
  have nE := no_isE
  have uE := no_unwrapE
  have vE := no_unwrapsE
  have nP := no_isP
  have uP := has_unwrapP
  have mU := method_unwrapP
  have hty := run_eql_iface_types (P := Tryz.prog) 115 338 (.agg #[.iface 338 (.pointer (some a)), .int .i64 x]) (.pointer (some b)) Tryz.underlying58 (by decide) w
  have ha2 : (w.alloc (.cells #[.iface 338 (.pointer (some a)), .int .i64 x] 115)).heap[a.block]? = some (.cells ca ta (0, 0)) := by rw [Below.heap_alloc _ _ _ (Array.getElem?_eq_some_iff.1 ha).1]; exact ha
  have hb2 : (w.alloc (.cells #[.iface 338 (.pointer (some a)), .int .i64 x] 115)).heap[b.block]? = some (.cells cb tb (0, 0)) := by rw [Below.heap_alloc _ _ _ (Array.getElem?_eq_some_iff.1 hb).1]; exact hb
  have heq := run_eql_iface_ptr_other (P := Tryz.prog) (w.alloc (.cells #[.iface 338 (.pointer (some a)), .int .i64 x] 115)) Tryz.underlying58 Tryz.underlying338 hi hcmp hj (by rw [hjs]; decide) hne ha2 hb2
  clear ha hb ha2 hb2 hne
  go_enter Tryz.func46, Tryz.ntmps46
  go_wp2
  refine wp_loop_rounds 2 ?_
  rw [rounds_succ]
  go_wp2_with (go_at_call 240; refine (unwrap_any _ _ _).mono ?_; rintro e w1 ⟨rfl, rfl⟩)
  rw [rounds_succ]
  go_wp2
  go_ret
  exact ⟨rfl, fr_alloc _ _ _⟩
end Go.Proofs.YtdfbjnachakkhaaGreatDoor
