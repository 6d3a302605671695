/-
  The law's own words on terms: 'sameTerm', walked.
-/
import Derived.Test.YtoelacloghkooaaDoorShapes
namespace Go.Proofs.YtoelacloghkooaaDoor
open Go.ChangeShapes Go.WideShapes Go.ChangeAt Go.RowKit
set_option linter.unusedVariables false
/-- the same term, with its place or without -/
def SameT (pl : Bool) (t u : PTerm) : Prop := t.isVar = u.isVar ∧ t.text = u.text ∧ (pl = true → t.place = u.place)
theorem SameT.refl (pl : Bool) (t : PTerm) : SameT pl t t := ⟨rfl, rfl, fun _ => rfl⟩
set_option maxRecDepth 100000 in
set_option maxHeartbeats 1000000 in
theorem sameTerm_raw (v : Bool) (x : ByteArray) (p1 p2 : Int) (pl : Bool) (w : World) (h : pl = true → p1 = p2) :
    Calls Tryd.prog 24 #[.agg #[.bool v, .string x, .int .i64 p1], .agg #[.bool v, .string x, .int .i64 p2], .bool pl] w fun e w' => e = .returned (.bool true) ∧ w.grownBy w' none := by
  cases pl with
  | true =>
    cases h rfl
    clear h
    go_enter Tryd.func24, Tryd.ntmps24
    go_wp2
    go_ret
    exact ⟨rfl, fr_both (fr_alloc _ _ _) (fr_alloc _ _ _)⟩
  | false =>
    clear h
    go_enter Tryd.func24, Tryd.ntmps24
    go_wp2
    go_ret
    exact ⟨rfl, fr_both (fr_alloc _ _ _) (fr_alloc _ _ _)⟩
theorem sameTerm_any (pl : Bool) (t u : PTerm) (w : World) (h : SameT pl t u) :
    Calls Tryd.prog 24 #[.agg #[.bool t.isVar, .string (str t.text), .int .i64 (t.place : Nat)], .agg #[.bool u.isVar, .string (str u.text), .int .i64 (u.place : Nat)], .bool pl] w fun e w' => e = .returned (.bool true) ∧ w.grownBy w' none := by
  obtain ⟨h1, h2, h3⟩ := h
  rw [h1, h2]
  exact sameTerm_raw _ _ _ _ _ _ (fun hp => by rw [h3 hp])
end Go.Proofs.YtoelacloghkooaaDoor
