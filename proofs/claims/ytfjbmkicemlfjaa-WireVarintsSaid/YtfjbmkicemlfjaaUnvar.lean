import Derived.Test.YtfjbmkicemlfjaaNumber
namespace Go.Proofs.Ytfjbmkicemlfjaa.wireVarints
open Go.ChangeShapes Go.WideShapes Go.ChangeAt Go.RowKit
set_option linter.unusedVariables false
theorem Cur.new (w : World) (b : Nat) (s : ByteArray) (a : Int) (hb : b = w.heap.size) : Cur (w.alloc (.cells #[.string s, .int .i64 a, .int .i64 0] 37)) b s a 0 := by
  subst hb
  refine ⟨?_, ?_, ?_, ?_, ?_⟩
  · simp
  · simp
  · simp
  · exact World.frozen?_alloc_at _ _ _ _ rfl
  · exact World.frozen?_alloc_at _ _ _ _ rfl
theorem Cur.new3 (w : World) (b : Nat) (s : ByteArray) (a : Int) (hb : b = w.heap.size) : Cur (w.alloc (.cells #[.string s, .int .i64 a, .int .i64 3] 37)) b s a 3 := by
  subst hb
  refine ⟨?_, ?_, ?_, ?_, ?_⟩
  · simp
  · simp
  · simp
  · exact World.frozen?_alloc_at _ _ _ _ rfl
  · exact World.frozen?_alloc_at _ _ _ _ rfl
set_option maxRecDepth 100000 in
set_option maxHeartbeats 400000 in
theorem cursorAt_in (s : ByteArray) (a : Nat) (w : World) (ha : a ≤ s.size) (hs : s.size ≤ 140737488355328) :
    Calls Try.prog 14 #[.string s, .int .i64 a] w fun e w' => e = .returned (.agg #[.string s, .int .i64 a, .int .i64 0]) ∧ Below w.heap.size w w' := by
  go_enter Try.func14, Try.ntmps14
  go_wp2
  exact bodyPost_ret (v := .agg #[.string s, .int .i64 a, .int .i64 0]) (by simp [results, Try.results14, go_sem]) rfl ⟨rfl, ((Below.refl _ _).alloc (Nat.le_refl _) _).alloc (by simp) _⟩
set_option maxRecDepth 100000 in
set_option maxHeartbeats 400000 in
theorem cursorAt_out (s : ByteArray) (a : Int) (w : World) (ha : a < 0 ∨ s.size < a) (hs : s.size ≤ 140737488355328) :
    Calls Try.prog 14 #[.string s, .int .i64 a] w fun e w' => e = .returned (.agg #[.string s, .int .i64 a, .int .i64 3]) ∧ Below w.heap.size w w' := by
  rcases ha with ha | ha
  all_goals
    go_enter Try.func14, Try.ntmps14
    go_wp2_with fail
    refine (fail_first (w.heap.size + 1) s a 3 _ (Cur.new _ _ s a (by simp))).mono ?_
    rintro e w2 ⟨rfl, hc2, hb2⟩
    obtain ⟨c0, c1, c2, f1, f2⟩ := hc2
    have d0 := hb2.cell (p := ⟨w.heap.size, 0, none⟩) (Nat.lt_succ_self _)
    have d1 := hb2.cell (p := ⟨w.heap.size, 1, none⟩) (Nat.lt_succ_self _)
    have d2 := hb2.cell (p := ⟨w.heap.size, 2, none⟩) (Nat.lt_succ_self _)
    have e0 := hb2.frozen (p := ⟨w.heap.size, 0, none⟩) (Nat.lt_succ_self _)
    have e1 := hb2.frozen (p := ⟨w.heap.size, 1, none⟩) (Nat.lt_succ_self _)
    have e2 := hb2.frozen (p := ⟨w.heap.size, 2, none⟩) (Nat.lt_succ_self _)
    simp at d0 d1 d2 e0 e1 e2
    have HB : Hid (Below w.heap.size w w2) := (((Below.refl _ _).alloc (Nat.le_refl _) _).alloc (by simp) _).trans (hb2.mono (Nat.le_succ _))
    clear hb2
    go_wp2
    refine bodyPost_ret (v := .agg #[.string s, .int .i64 a, .int .i64 3]) (by simp [results, Try.results14, go_sem, d0, d1, d2]) rfl ⟨rfl, ?_⟩
    exact ((HB.out.setCell (p := ⟨w.heap.size, 0, none⟩) (Nat.le_refl _) _).setCell (p := ⟨w.heap.size, 1, none⟩) (Nat.le_refl _) _).setCell (p := ⟨w.heap.size, 2, none⟩) (Nat.le_refl _) _
/-- what Unvarint answers, at a place within the bytes -/
def three (a : Nat) : Option (Nat × Nat) → Value
  | none => .tuple #[.int .i64 0, .int .i64 0, .int .i64 4]
  | some (n, k) => .tuple #[.int .i64 n, .int .i64 ((a + k : Nat) : Int), .int .i64 0]
theorem ret3_none {a : Nat} {r : Option (Nat × Nat)} (h : r = none) : Ending.returned (.tuple #[.int .i64 0, .int .i64 0, .int .i64 4]) = .returned (three a r) := by rw [h]; rfl
theorem ret3_some {a : Nat} {r : Option (Nat × Nat)} {v1 v2 : Int} (n k : Nat) (h : r = some (n, k)) (h1 : v1 = n) (h2 : v2 = ((a + k : Nat) : Int)) :
    Ending.returned (.tuple #[.int .i64 v1, .int .i64 v2, .int .i64 0]) = .returned (three a r) := by rw [h, h1, h2]; rfl
set_option maxRecDepth 100000 in
set_option maxHeartbeats 400000 in
theorem unvarint_in (s : ByteArray) (a : Nat) (w : World) (ha : a ≤ s.size) (hs : s.size ≤ 140737488355328) :
    Calls Try.prog 7 #[.string s, .int .i64 a] w fun e w' => e = .returned (three a (uv 0 0 (from_ s a))) ∧ Below w.heap.size w w' := by
  go_enter Try.func7, Try.ntmps7
  go_wp2_with fail
  refine (cursorAt_in s a _ ha hs).mono ?_
  rintro e w1 ⟨rfl, hb1⟩
  go_wp2_with fail
  refine (number_any w1.heap.size a s _ (Cur.new _ _ s a rfl) ha hs).mono ?_
  rintro e w2 ⟨hp, hb2⟩
  have HB : Hid (Below w.heap.size w w2) := (hb1.alloc hb1.size _).trans (hb2.mono hb1.size)
  clear hb1 hb2
  cases hu : uv 0 0 (from_ s a) with
  | none =>
    rw [hu] at hp
    obtain ⟨v, a', rfl, hc⟩ := hp
    obtain ⟨c0, c1, c2, f1, f2⟩ := hc
    have HU : Hid (uv 0 0 (from_ s a) = none) := hu
    clear hu
    go_wp2
    go_quiet (fail)
    go_wp2
    go_ret3
    exact ⟨ret3_none HU.out, below_drewN HB.out _⟩
  | some q =>
    obtain ⟨n, k⟩ := q
    rw [hu] at hp
    obtain ⟨rfl, hc⟩ := hp
    obtain ⟨c0, c1, c2, f1, f2⟩ := hc
    have HU : Hid (uv 0 0 (from_ s a) = some (n, k)) := hu
    clear hu
    go_wp2
    go_quiet (fail)
    go_wp2
    go_ret3
    exact ⟨ret3_some n k HU.out rfl (by push_cast; rfl), below_drewN HB.out _⟩
set_option maxRecDepth 100000 in
set_option maxHeartbeats 400000 in
theorem unvarint_out (s : ByteArray) (a : Int) (w : World) (ha : a < 0 ∨ s.size < a) (hs : s.size ≤ 140737488355328) :
    Calls Try.prog 7 #[.string s, .int .i64 a] w fun e w' => e = .returned (.tuple #[.int .i64 0, .int .i64 0, .int .i64 3]) ∧ Below w.heap.size w w' := by
  go_enter Try.func7, Try.ntmps7
  go_wp2_with fail
  refine (cursorAt_out s a _ ha hs).mono ?_
  rintro e w1 ⟨rfl, hb1⟩
  go_wp2_with fail
  refine (number_err w1.heap.size s a 3 _ (Cur.new3 _ _ s a rfl) (by decide) hs).mono ?_
  rintro e w2 ⟨⟨v, rfl⟩, hc, hb2⟩
  have HB : Hid (Below w.heap.size w w2) := (hb1.alloc hb1.size _).trans (hb2.mono hb1.size)
  clear hb1 hb2
  obtain ⟨c0, c1, c2, f1, f2⟩ := hc
  go_wp2
  go_quiet (fail)
  go_wp2
  go_ret3
  exact ⟨rfl, below_drewN HB.out _⟩
end Go.Proofs.Ytfjbmkicemlfjaa.wireVarints
