import Derived.Test.YtnnldpccagajbaaGreatDoorM04
import Derived.Test.YtnnldpccagajbaaGreatDoorM01
import Derived.Maps.AppendAt
/-
  The program's Unvarint, walked.
-/
namespace Go.Proofs.YtnnldpccagajbaaGreatDoor.wireVarints
open Go.ChangeShapes Go.WideShapes Go.ChangeAt Go.RowKit
set_option linter.unusedVariables false
theorem group (k acc : Nat) (c : UInt8) (hk : k ≤ 8) (h : acc < pw k) :
    bits .or .i64 (acc : Int) (wrap64 (wrap64 (bits .and .u8 (c.toNat : Int) 127) * 2 ^ (7 * k))) = ((acc + pw k * (c.toNat % 128) : Nat) : Int) := by
  have hc := c.toNat_lt
  have hp := pw_le k hk
  have b : pw k * (c.toNat % 128) ≤ pw k * 127 := Nat.mul_le_mul_left _ (by omega)
  have e1 : bits .and .u8 (c.toNat : Int) 127 = ((c.toNat % 128 : Nat) : Int) := by
    rw [u8_and _ _ (by omega) (by omega) (by decide) (by decide)]
    show ((c.toNat &&& 127 : Nat) : Int) = _
    rw [nat_mask7]
  have e2 : wrap64 ((c.toNat % 128 : Nat) : Int) = ((c.toNat % 128 : Nat) : Int) := by unfold wrap64; omega
  have e3 : ((c.toNat % 128 : Nat) : Int) * 2 ^ (7 * k) = ((pw k * (c.toNat % 128) : Nat) : Int) := by
    rw [pw_two]; push_cast; rw [Int.mul_comm]
  have e4 : wrap64 (((c.toNat % 128 : Nat) : Int) * 2 ^ (7 * k)) = ((c.toNat % 128 : Nat) : Int) * 2 ^ (7 * k) := by
    rw [e3]; unfold wrap64; omega
  rw [e1, e2, e4, or_group k acc c hk h]
theorem group0 (k acc : Nat) (hk : k ≤ 8) (h : acc < pw k) :
    bits .or .i64 (acc : Int) (wrap64 (wrap64 (bits .and .u8 0 127) * 2 ^ (7 * k))) = (acc : Int) := by
  have := group k acc 0 hk h
  simpa using this
theorem acc_next (acc k : Nat) (c : UInt8) (h : acc < pw k) : acc + pw k * (c.toNat % 128) < pw (k + 1) := by
  rw [pw_succ]; exact acc_lt acc _ _ h
/-- what Unvarint answers, at a place within the bytes -/
def three (a : Nat) : Option (Nat × Nat) → Value
  | none => .tuple #[.int .i64 0, .int .i64 0, .int .i64 4]
  | some (n, k) => .tuple #[.int .i64 n, .int .i64 ((a + k : Nat) : Int), .int .i64 0]
theorem ret3_none {a : Nat} {r : Option (Nat × Nat)} (h : r = none) : Ending.returned (.tuple #[.int .i64 0, .int .i64 0, .int .i64 4]) = .returned (three a r) := by rw [h]; rfl
theorem ret3_some {a : Nat} {r : Option (Nat × Nat)} {v1 v2 : Int} (n k : Nat) (h : r = some (n, k)) (h1 : v1 = n) (h2 : v2 = ((a + k : Nat) : Int)) :
    Ending.returned (.tuple #[.int .i64 v1, .int .i64 v2, .int .i64 0]) = .returned (three a r) := by rw [h, h1, h2]; rfl
set_option maxRecDepth 100000 in
set_option maxHeartbeats 1000000 in
theorem unvarint_same (s : ByteArray) (a : Nat) (w : World) (ha : a ≤ s.size) (hs : s.size ≤ 140737488355328) :
    Calls Tryz.prog 88 #[.string s, .int .i64 a] w fun e w' => e = .returned (three a (uv 0 0 (from_ s a))) ∧ w' = w := by
  have d0 : decide ((a : Int) < 0) = false := by simp
  have d1 : decide (s.size < a) = false := by simp; omega
  have d2 : decide ((s.size : Int) < (a : Int)) = false := by simp; omega
  go_enter Tryz.func88, Tryz.ntmps88
  go_wp2
  go_loopw [7, 8, 9] (fun n sh i wr => ∃ k acc : Nat, wr = w ∧ k ≤ 9 ∧ a + k ≤ s.size ∧ i = .int .i64 ((a + k : Nat) : Int) ∧ sh = .int .i64 (7 * (k : Int)) ∧ n = .int .i64 acc ∧ Hid (acc < pw k) ∧ Hid (uv 0 0 (from_ s a) = uv k acc (from_ s (a + k)))) (fun _ _ i _ => s.size - (intOf i).toNat)
  case atStart => exact ⟨0, 0, rfl, by omega, ha, rfl, rfl, rfl, (by show 0 < pw 0; decide), rfl⟩
  case round =>
    obtain ⟨k, acc, rfl, hk, hak, rfl, rfl, rfl, HA, HU⟩ := hrel
    by_cases hlt : a + k < s.size
    · by_cases hk9 : k < 9
      · have hc : (s[a + k].toNat : Int) ≤ 255 := by have := s[a + k].toNat_lt; omega
        go_wp2
        · have c0 : s[a + k].toNat = 0 := by assumption
          have k0 : 0 < k := by omega
          go_ret3
          exact ⟨ret3_none (by rw [HU.out, from_cons s _ hlt, uv_needless _ acc _ _ (by omega) c0 (by omega)]), rfl⟩
        · have c0 : s[a + k].toNat = 0 := by assumption
          go_ret3
          exact ⟨ret3_some _ _ (by rw [HU.out, from_cons s _ hlt, uv_last _ acc _ _ (by omega) (by omega) (by omega)]) (by rw [group0 k acc (by omega) HA.out, c0]; simp) (by omega), rfl⟩
        · have c0 : ¬ s[a + k].toNat = 0 := by assumption
          have c1 : (s[a + k].toNat : Int) < 128 := by assumption
          go_ret3
          exact ⟨ret3_some _ _ (by rw [HU.out, from_cons s _ hlt, uv_last _ acc _ _ (by omega) (by omega) (by omega)]) (by rw [group k acc _ (by omega) HA.out]) (by omega), rfl⟩
        · have c1 : 128 ≤ (s[a + k].toNat : Int) := by assumption
          have eu : uv 0 0 (from_ s a) = uv (k + 1) (acc + pw k * (s[a + k].toNat % 128)) (from_ s (a + (k + 1))) := by
            rw [HU.out, from_cons s _ hlt, uv_more _ acc _ _ (by omega) (by omega)]; rfl
          go_roundw
          case rel => exact ⟨k + 1, acc + pw k * (s[a + k].toNat % 128), trivial, by omega, by omega, by go_num, by go_num, by rw [group k acc _ (by omega) HA.out], acc_next acc k _ HA.out, eu⟩
          case measure => simp [intOf]; omega
      · obtain rfl : k = 9 := by omega
        have HUN : Hid (uv 0 0 (from_ s a) = none) := by show _ = _; rw [HU.out, uv_nine]
        go_wp2
        go_ret3
        exact ⟨ret3_none HUN.out, rfl⟩
    · have HUN : Hid (uv 0 0 (from_ s a) = none) := by show _ = _; rw [HU.out, from_end s _ (by omega), uv_nil]
      go_wp2
      go_ret3
      exact ⟨ret3_none HUN.out, rfl⟩
theorem unvarint_in (s : ByteArray) (a : Nat) (w : World) (ha : a ≤ s.size) (hs : s.size ≤ 140737488355328) :
    Calls Tryz.prog 88 #[.string s, .int .i64 a] w fun e w' => e = .returned (three a (uv 0 0 (from_ s a))) ∧ Below w.heap.size w w' :=
  (unvarint_same s a w ha hs).mono fun e w' h => ⟨h.1, by rw [h.2]; exact Below.refl _ _⟩
set_option maxRecDepth 100000 in
set_option maxHeartbeats 400000 in
theorem unvarint_out (s : ByteArray) (a : Int) (w : World) (ha : a < 0 ∨ s.size < a) (hs : s.size ≤ 140737488355328) :
    Calls Tryz.prog 88 #[.string s, .int .i64 a] w fun e w' => e = .returned (.tuple #[.int .i64 0, .int .i64 0, .int .i64 3]) ∧ Below w.heap.size w w' := by
  rcases ha with ha | ha
  all_goals
    go_enter Tryz.func88, Tryz.ntmps88
    go_wp2
    go_ret3
    exact ⟨rfl, Below.refl _ _⟩
end Go.Proofs.YtnnldpccagajbaaGreatDoor.wireVarints

/-
  Chapter 2 in plain words of lists, more: texts read loosely, as the program reads them. Nothing of the program.
-/
namespace Go.Proofs.YtnnldpccagajbaaGreatDoor
/-- texts read one behind the other, none of more than 200 bytes -/
def loose : Nat → List UInt8 → List UInt8 → Option (List (List UInt8))
  | 0, _, _ => some []
  | n + 1, p, d => match rd d with
    | none => none
    | some (head, d1) => match rd d1 with
      | none => none
      | some (rest, d2) => if d2.length < rest then none else if p.length < head then none else if 200 < head + rest then none else match loose n (p.take head ++ d2.take rest) (d2.drop rest) with
        | none => none
        | some l => some ((p.take head ++ d2.take rest) :: l)
theorem rd_shrinks (d d1 : List UInt8) (n : Nat) (h : rd d = some (n, d1)) : d1.length < d.length := by
  unfold rd at h
  split at h
  · cases h
  · rename_i n' k hu
    cases h
    have := uv_len _ _ _ _ _ hu
    rw [List.length_drop]; omega
theorem parse_count (n : Nat) (p d : List UInt8) (l : List (List UInt8)) (h : parse n p d = some l) : n ≤ d.length := by
  induction n generalizing p d l with
  | zero => omega
  | succ n ih =>
    rw [parse] at h
    split at h
    · cases h
    · rename_i head d1 h1
      have s1 := rd_shrinks _ _ _ h1
      split at h
      · cases h
      · split at h
        · cases h
        · rename_i rest d2 h2
          have s2 := rd_shrinks _ _ _ h2
          split at h
          · cases h
          · split at h
            · cases h
            · rename_i l' h3
              have := ih _ _ _ h3
              rw [List.length_drop] at this
              omega
theorem loose_some (n : Nat) (p d : List UInt8) (l : List (List UInt8)) (h : loose n p d = some l) : parse n p d = some l := by
  induction n generalizing p d l with
  | zero => simpa [loose, parse] using h
  | succ n ih =>
    rw [loose] at h
    split at h
    · cases h
    · rename_i head d1 h1
      split at h
      · cases h
      · rename_i rest d2 h2
        split at h
        · cases h
        · rename_i c1
          split at h
          · cases h
          · rename_i c2
            split at h
            · cases h
            · split at h
              · cases h
              · rename_i l' h3
                rw [parse, h1]
                simp only
                rw [if_neg c2, h2]
                simp only
                rw [if_neg c1, ih _ _ _ h3]
                exact h
theorem loose_none (n : Nat) (p d : List UInt8) (l : List (List UInt8)) (h : loose n p d = none) (hp : parse n p d = some l) : ∃ t ∈ l, 200 < t.length := by
  induction n generalizing p d l with
  | zero => simp [loose] at h
  | succ n ih =>
    rw [parse] at hp
    split at hp
    · cases hp
    · rename_i head d1 h1
      split at hp
      · cases hp
      · rename_i c2
        split at hp
        · cases hp
        · rename_i rest d2 h2
          split at hp
          · cases hp
          · rename_i c1
            rw [loose, h1] at h
            simp only [h2, if_neg c1, if_neg c2] at h
            split at hp
            · cases hp
            · rename_i l' h3
              cases hp
              split at h
              · rename_i c3
                refine ⟨_, List.mem_cons_self, ?_⟩
                rw [List.length_append, List.length_take, List.length_take]; omega
              · split at h
                · rename_i h4
                  obtain ⟨t, ht, h5⟩ := ih _ _ _ h4 h3
                  exact ⟨t, List.mem_cons_of_mem _ ht, h5⟩
                · cases h
theorem loose_step (s : ByteArray) (n p head k1 rest k2 : Nat) (ah : List UInt8) (h1 : uv 0 0 (from_ s p) = some (head, k1)) (h2 : head ≤ ah.length)
    (h3 : uv 0 0 (from_ s (p + k1)) = some (rest, k2)) (h4 : rest + (p + k1 + k2) ≤ s.size) (h5 : head + rest ≤ 200) :
    loose (n + 1) ah (from_ s p) = (loose n (ah.take head ++ (from_ s (p + k1 + k2)).take rest) (from_ s (p + k1 + k2 + rest))).map ((ah.take head ++ (from_ s (p + k1 + k2)).take rest) :: ·) := by
  rw [loose, rd_some s p head k1 h1]
  simp only
  rw [rd_some s (p + k1) rest k2 h3]
  simp only
  rw [if_neg (by rw [from_len]; omega), if_neg (by omega), if_neg (by omega), from_drop]
  cases loose n (ah.take head ++ (from_ s (p + k1 + k2)).take rest) (from_ s (p + k1 + k2 + rest)) <;> rfl
theorem loose_none1 (s : ByteArray) (n p : Nat) (ah : List UInt8) (h1 : uv 0 0 (from_ s p) = none) : loose (n + 1) ah (from_ s p) = none := by
  rw [loose, rd_none s p h1]
theorem loose_none2 (s : ByteArray) (n p head k1 : Nat) (ah : List UInt8) (h1 : uv 0 0 (from_ s p) = some (head, k1)) (h3 : uv 0 0 (from_ s (p + k1)) = none) : loose (n + 1) ah (from_ s p) = none := by
  rw [loose, rd_some s p head k1 h1]; simp only
  rw [rd_none s _ h3]
theorem loose_none3 (s : ByteArray) (n p head k1 rest k2 : Nat) (ah : List UInt8) (h1 : uv 0 0 (from_ s p) = some (head, k1))
    (h3 : uv 0 0 (from_ s (p + k1)) = some (rest, k2)) (h4 : s.size - (p + k1 + k2) < rest ∨ ah.length < head ∨ 200 < head + rest) : loose (n + 1) ah (from_ s p) = none := by
  rw [loose, rd_some s p head k1 h1]; simp only
  rw [rd_some s (p + k1) rest k2 h3]; simp only
  rw [from_len]
  split
  · rfl
  · split
    · rfl
    · split
      · rfl
      · omega
theorem open_loose (s : ByteArray) (n k : Nat) (h : uv 0 0 (from_ s 0) = some (n, k)) :
    open_ s.data.toList = match loose n [] (from_ s k) with | none => none | some l => if build l = (s.data.toList, 0, 0) then some l else none := by
  by_cases hn : s.size < n
  · rw [open_none2 s n k h hn]
    cases hl : loose n [] (from_ s k) with
    | none => rfl
    | some l =>
      have := parse_count _ _ _ _ (loose_some _ _ _ _ hl)
      rw [from_len] at this
      omega
  · rw [open_of s n k h (by omega)]
    cases hl : loose n [] (from_ s k) with
    | some l => rw [loose_some _ _ _ _ hl]
    | none =>
      cases hp : parse n [] (from_ s k) with
      | none => rfl
      | some l =>
        simp only
        obtain ⟨t, ht, h2⟩ := loose_none _ _ _ _ hl hp
        rw [if_neg]
        intro hb
        have hg : good none l = true := (build_ok l).1 (by rw [hb])
        have := good_len l none hg t ht
        omega
end Go.Proofs.YtnnldpccagajbaaGreatDoor

/-
  The program's stream.Cursor, walked.
-/
namespace Go.Proofs.YtnnldpccagajbaaGreatDoor
open Go.ChangeShapes Go.WideShapes Go.ChangeAt Go.RowKit
open wireVarints (unvarint_same three)
set_option linter.unusedVariables false
/-- a cursor at block b: its bytes, its place, its error -/
structure Cur (w : World) (b : Nat) (s : ByteArray) (a e : Int) : Prop where
  c0 : w.cell? ⟨b, 0, none⟩ = some (.string s)
  c1 : w.cell? ⟨b, 1, none⟩ = some (.int .i64 a)
  c2 : w.cell? ⟨b, 2, none⟩ = some (.int .i64 e)
  f1 : w.frozen? ⟨b, 1, none⟩ = false
  f2 : w.frozen? ⟨b, 2, none⟩ = false
theorem Cur.lt {w : World} {b : Nat} {s : ByteArray} {a e : Int} (h : Cur w b s a e) : b < w.heap.size := World.block_lt_of_cell? w ⟨b, 0, none⟩ h.c0
theorem Cur.setErr {w : World} {b : Nat} {s : ByteArray} {a e : Int} (h : Cur w b s a e) (x : Int) : Cur (w.setCell ⟨b, 2, none⟩ (.int .i64 x)) b s a x :=
  ⟨by rw [World.cell?_setCell_other _ _ _ _ (by simp)]; exact h.c0, by rw [World.cell?_setCell_other _ _ _ _ (by simp)]; exact h.c1, World.cell?_setCell_same _ _ _ h.c2, by rw [World.frozen?_setCell]; exact h.f1, by rw [World.frozen?_setCell]; exact h.f2⟩
theorem Cur.setAt {w : World} {b : Nat} {s : ByteArray} {a e : Int} (h : Cur w b s a e) (x : Int) : Cur (w.setCell ⟨b, 1, none⟩ (.int .i64 x)) b s x e :=
  ⟨by rw [World.cell?_setCell_other _ _ _ _ (by simp)]; exact h.c0, World.cell?_setCell_same _ _ _ h.c1, by rw [World.cell?_setCell_other _ _ _ _ (by simp)]; exact h.c2, by rw [World.frozen?_setCell]; exact h.f1, by rw [World.frozen?_setCell]; exact h.f2⟩
theorem Cur.kept {w w' : World} {b : Nat} {s : ByteArray} {a e : Int} (h : Cur w b s a e) (hb : w'.heap[b]? = w.heap[b]?) : Cur w' b s a e :=
  ⟨by rw [World.cell?_of_block (w := w) (a := ⟨b, 0, none⟩) hb]; exact h.c0, by rw [World.cell?_of_block (w := w) (a := ⟨b, 1, none⟩) hb]; exact h.c1, by rw [World.cell?_of_block (w := w) (a := ⟨b, 2, none⟩) hb]; exact h.c2, by rw [World.frozen?_of_block (w := w) (a := ⟨b, 1, none⟩) hb]; exact h.f1, by rw [World.frozen?_of_block (w := w) (a := ⟨b, 2, none⟩) hb]; exact h.f2⟩
theorem Cur.drewN {w : World} {b : Nat} {s : ByteArray} {a e : Int} (h : Cur w b s a e) (n : Nat) : Cur (w.drewN n) b s a e := ⟨h.c0, h.c1, h.c2, h.f1, h.f2⟩
theorem cgrown_refl (w : World) (row : Option Nat) : w.grownBy w row := ⟨rfl, rfl, rfl, Nat.le_refl _, fun _ _ _ => rfl⟩
theorem cgrown_set (w : World) (a : Addr) (u : Value) : w.grownBy (w.setCell a u) (some a.block) :=
  ⟨rfl, rfl, rfl, by simp [World.setCell], fun k _ hk => Below.heap_setCell w a u k (fun e => hk (by rw [e]))⟩
theorem cgrown_draws (w : World) (n : Nat) (row : Option Nat) : w.grownBy (w.drewN n) row := ⟨rfl, rfl, rfl, Nat.le_refl _, fun _ _ _ => rfl⟩
theorem grown_after {w w' : World} {b : Nat} (n : Nat) (h : (w.drewN n).grownBy w' (some b)) : w.grownBy w' (some b) := (cgrown_draws w n _).trans h
set_option maxRecDepth 100000 in
set_option maxHeartbeats 400000 in
theorem cfail_first (b : Nat) (s : ByteArray) (a x : Int) (w : World) (h : Cur w b s a 0) :
    Calls Tryz.prog 65 #[.pointer (some ⟨b, 0, none⟩), .int .i64 x] w fun e w' => e = .returned (.tuple #[]) ∧ Cur w' b s a x ∧ w.grownBy w' (some b) := by
  have h1 := h.setErr x
  have HC : Hid (Cur (w.setCell ⟨b, 2, none⟩ (.int .i64 x)) b s a x) := h1
  clear h1
  obtain ⟨c0, c1, c2, f1, f2⟩ := h
  go_enter Tryz.func65, Tryz.ntmps65
  go_wp2
  go_end0
  exact ⟨rfl, HC.out, cgrown_set w ⟨b, 2, none⟩ _⟩
set_option maxRecDepth 100000 in
set_option maxHeartbeats 400000 in
theorem cfail_later (b : Nat) (s : ByteArray) (a x y : Int) (w : World) (h : Cur w b s a y) (hy : (y == 0) = false) :
    Calls Tryz.prog 65 #[.pointer (some ⟨b, 0, none⟩), .int .i64 x] w fun e w' => e = .returned (.tuple #[]) ∧ Cur w' b s a y ∧ w.grownBy w' (some b) := by
  have HC : Hid (Cur w b s a y) := h
  obtain ⟨c0, c1, c2, f1, f2⟩ := h
  go_enter Tryz.func65, Tryz.ntmps65
  go_wp2
  go_end0
  exact ⟨rfl, HC.out, cgrown_refl _ _⟩
/-- whatever stood there: there is an error behind it -/
theorem cfail_any (b : Nat) (s : ByteArray) (a x y : Int) (w : World) (h : Cur w b s a y) (hx : (x == 0) = false) :
    Calls Tryz.prog 65 #[.pointer (some ⟨b, 0, none⟩), .int .i64 x] w fun e w' => e = .returned (.tuple #[]) ∧ (∃ z, (z == 0) = false ∧ Cur w' b s a z) ∧ w.grownBy w' (some b) := by
  by_cases hy : y = 0
  · subst hy
    exact (cfail_first b s a x w h).mono fun e w' h' => ⟨h'.1, ⟨x, hx, h'.2.1⟩, h'.2.2⟩
  · exact (cfail_later b s a x y w h (by simpa using hy)).mono fun e w' h' => ⟨h'.1, ⟨y, by simpa using hy, h'.2.1⟩, h'.2.2⟩
set_option maxRecDepth 100000 in
set_option maxHeartbeats 400000 in
theorem cerr_any (b : Nat) (s : ByteArray) (a y : Int) (w : World) (h : Cur w b s a y) :
    Calls Tryz.prog 40 #[.pointer (some ⟨b, 0, none⟩)] w fun e w' => e = .returned (.int .i64 y) ∧ w = w' := by
  obtain ⟨c0, c1, c2, f1, f2⟩ := h
  go_enter Tryz.func40, Tryz.ntmps40
  go_wp2
  go_ret
  exact ⟨rfl, rfl⟩
set_option maxRecDepth 100000 in
set_option maxHeartbeats 400000 in
theorem cnumber_err (b : Nat) (s : ByteArray) (a y : Int) (w : World) (h : Cur w b s a y) (hy : (y == 0) = false) :
    Calls Tryz.prog 69 #[.pointer (some ⟨b, 0, none⟩)] w fun e w' => e = .returned (.int .i64 0) ∧ Cur w' b s a y ∧ w.grownBy w' (some b) := by
  have HC : Hid (Cur w b s a y) := h
  obtain ⟨c0, c1, c2, f1, f2⟩ := h
  have hy' : (y != 0) = true := by simp [bne, hy]
  go_enter Tryz.func69, Tryz.ntmps69
  go_wp2
  go_ret
  exact ⟨rfl, HC.out, cgrown_refl _ _⟩
/-- what 'Number' leaves -/
def NumPost (b a : Nat) (s : ByteArray) (r : Option (Nat × Nat)) (e : Ending) (w' : World) : Prop :=
  match r with
  | none => e = .returned (.int .i64 0) ∧ Cur w' b s a 4
  | some (n, k) => e = .returned (.int .i64 n) ∧ Cur w' b s ((a + k : Nat) : Int) 0
set_option maxRecDepth 100000 in
set_option maxHeartbeats 400000 in
theorem cnumber_any (b a : Nat) (s : ByteArray) (w : World) (h : Cur w b s a 0) (ha : a ≤ s.size) (hs : s.size ≤ 140737488355328) :
    Calls Tryz.prog 69 #[.pointer (some ⟨b, 0, none⟩)] w fun e w' => NumPost b a s (uv 0 0 (from_ s a)) e w' ∧ w.grownBy w' (some b) := by
  have HC : Hid (Cur w b s a 0) := h
  obtain ⟨c0, c1, c2, f1, f2⟩ := h
  cases hu : uv 0 0 (from_ s a) with
  | none =>
    have HT : Hid (∀ wx : World, Calls Tryz.prog 88 #[.string s, .int .i64 a] wx fun e w' => e = .returned (.tuple #[.int .i64 0, .int .i64 0, .int .i64 4]) ∧ w' = wx) := by
      intro wx
      have := unvarint_same s a wx ha hs
      rw [hu] at this; exact this
    clear hu
    go_enter Tryz.func69, Tryz.ntmps69
    go_wp2_with fail
    go_quiet ((go_at_call 88; refine Calls.quiet_of_same (HT.out _)))
    go_wp2_with fail
    refine (cfail_first b s a 4 _ (HC.out.drewN _)).mono ?_
    rintro e w2 ⟨rfl, hc2, hg2⟩
    go_wp2
    go_ret
    exact ⟨⟨rfl, hc2⟩, grown_after _ hg2⟩
  | some q =>
    obtain ⟨n, k⟩ := q
    have HT : Hid (∀ wx : World, Calls Tryz.prog 88 #[.string s, .int .i64 a] wx fun e w' => e = .returned (.tuple #[.int .i64 n, .int .i64 ((a + k : Nat) : Int), .int .i64 0]) ∧ w' = wx) := by
      intro wx
      have := unvarint_same s a wx ha hs
      rw [hu] at this; exact this
    clear hu
    have HC3 : Hid (∀ m : Nat, Cur ((w.drewN m).setCell ⟨b, 1, none⟩ (.int .i64 ((a + k : Nat) : Int))) b s ((a + k : Nat) : Int) 0) := fun m => (HC.out.drewN m).setAt _
    go_enter Tryz.func69, Tryz.ntmps69
    go_wp2_with fail
    go_quiet ((go_at_call 88; refine Calls.quiet_of_same (HT.out _)))
    go_wp2
    go_ret
    exact ⟨⟨rfl, HC3.out _⟩, grown_after _ (cgrown_set _ ⟨b, 1, none⟩ _)⟩
set_option maxRecDepth 100000 in
set_option maxHeartbeats 400000 in
theorem ctake_err (b : Nat) (s : ByteArray) (a y m : Int) (w : World) (h : Cur w b s a y) (hy : (y == 0) = false) :
    Calls Tryz.prog 68 #[.pointer (some ⟨b, 0, none⟩), .int .i64 m] w fun e w' => e = .returned (.string (str [])) ∧ Cur w' b s a y ∧ w.grownBy w' (some b) := by
  have HC : Hid (Cur w b s a y) := h
  obtain ⟨c0, c1, c2, f1, f2⟩ := h
  have hy' : (y != 0) = true := by simp [bne, hy]
  go_enter Tryz.func68, Tryz.ntmps68
  go_wp2
  go_ret
  exact ⟨rfl, HC.out, cgrown_refl _ _⟩
set_option maxRecDepth 100000 in
set_option maxHeartbeats 400000 in
theorem ctake_out (b a : Nat) (s : ByteArray) (m : Int) (w : World) (h : Cur w b s a 0) (ha : a ≤ s.size) (hs : s.size ≤ 140737488355328) (hm : m < 0 ∨ ((s.size - a : Nat) : Int) < m) :
    Calls Tryz.prog 68 #[.pointer (some ⟨b, 0, none⟩), .int .i64 m] w fun e w' => e = .returned (.string (str [])) ∧ Cur w' b s a 4 ∧ w.grownBy w' (some b) := by
  have HC : Hid (Cur w b s a 0) := h
  obtain ⟨c0, c1, c2, f1, f2⟩ := h
  have hm' : decide (m < 0) = true ∨ (decide (m < 0) = false ∧ decide ((s.size : Int) - (a : Int) < m) = true) := by
    by_cases h0 : m < 0
    · exact Or.inl (by simpa using h0)
    · refine Or.inr ⟨by simpa using h0, ?_⟩
      simp; omega
  rcases hm' with h0 | ⟨h0, h1⟩
  all_goals
    go_enter Tryz.func68, Tryz.ntmps68
    go_wp2
    go_quiet (fail)
    go_wp2_with fail
    refine (cfail_first b s a 4 _ (HC.out.drewN _)).mono ?_
    rintro e w2 ⟨rfl, hc2, hg2⟩
    go_wp2
    go_ret
    exact ⟨rfl, hc2, grown_after _ hg2⟩
theorem extract_take (s : ByteArray) (a m : Nat) : s.extract a (a + m) = str ((from_ s a).take m) := by
  apply WideShapes.bytes_inj
  rw [Lib.extract_data, data_str, from_, show a + m - a = m from by omega]
set_option maxRecDepth 100000 in
set_option maxHeartbeats 400000 in
theorem ctake_in (b a m : Nat) (s : ByteArray) (w : World) (h : Cur w b s a 0) (ha : a ≤ s.size) (hs : s.size ≤ 140737488355328) (hm : m ≤ s.size - a) :
    Calls Tryz.prog 68 #[.pointer (some ⟨b, 0, none⟩), .int .i64 m] w fun e w' => e = .returned (.string (str ((from_ s a).take m))) ∧ Cur w' b s ((a + m : Nat) : Int) 0 ∧ w.grownBy w' (some b) := by
  have HC : Hid (∀ i j : Nat, Cur (((w.drewN i).setCell ⟨b, 1, none⟩ (.int .i64 ((a + m : Nat) : Int))).drewN j) b s ((a + m : Nat) : Int) 0) := fun i j => ((h.drewN i).setAt _).drewN j
  obtain ⟨c0, c1, c2, f1, f2⟩ := h
  have h0 : decide ((m : Int) < 0) = false := by simp
  have h1 : decide ((s.size : Int) - (a : Int) < (m : Int)) = false := by simp; omega
  go_enter Tryz.func68, Tryz.ntmps68
  go_wp2
  go_quiet (fail)
  go_wp2
  go_quiet (fail)
  go_wp2
  go_ret
  refine ⟨ret_str ?_, ?_, ?_⟩
  · rw [← extract_take]
  · exact HC.out _ _
  · exact grown_after _ ((cgrown_set _ ⟨b, 1, none⟩ _).trans (cgrown_draws _ _ _))
end Go.Proofs.YtnnldpccagajbaaGreatDoor
