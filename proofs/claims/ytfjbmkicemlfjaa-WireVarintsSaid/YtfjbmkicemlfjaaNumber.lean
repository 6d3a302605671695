import Derived.Test.YtfjbmkicemlfjaaCursor
namespace Go.Proofs.Ytfjbmkicemlfjaa.wireVarints
open Go.ChangeShapes Go.WideShapes Go.ChangeAt Go.RowKit
set_option linter.unusedVariables false
/-- what 'number' leaves -/
def NumPost (b a : Nat) (s : ByteArray) (r : Option (Nat × Nat)) (e : Ending) (w' : World) : Prop :=
  match r with
  | none => ∃ v a' : Int, e = .returned (.int .i64 v) ∧ Cur w' b s a' 4
  | some (n, k) => e = .returned (.int .i64 n) ∧ Cur w' b s ((a + k : Nat) : Int) 0
theorem group (k acc : Nat) (c : UInt8) (hk : k ≤ 8) (h : acc < pw k) :
    bits .or .i64 (acc : Int) (wrap64 (wrap64 (bits .and .u8 (c.toNat : Int) 127) * 2 ^ (7 * k))) = ((acc + pw k * (c.toNat % 128) : Nat) : Int) := by
  have hc := c.toNat_lt
  have hp := pw_le k hk
  have b : pw k * (c.toNat % 128) ≤ pw k * 127 := Nat.mul_le_mul_left _ (by omega)
  have e1 : bits .and .u8 (c.toNat : Int) 127 = ((c.toNat % 128 : Nat) : Int) := by
    rw [u8_and _ _ (by omega) (by omega) (by decide) (by decide)]
    show ((c.toNat &&& 127 : Nat) : Int) = _
    rw [nat_mask7]
  have e2 : wrap64 ((c.toNat % 128 : Nat) : Int) = ((c.toNat % 128 : Nat) : Int) := by unfold wrap64; omega
  have e3 : ((c.toNat % 128 : Nat) : Int) * 2 ^ (7 * k) = ((pw k * (c.toNat % 128) : Nat) : Int) := by
    rw [pw_two]; push_cast; rw [Int.mul_comm]
  have e4 : wrap64 (((c.toNat % 128 : Nat) : Int) * 2 ^ (7 * k)) = ((c.toNat % 128 : Nat) : Int) * 2 ^ (7 * k) := by
    rw [e3]; unfold wrap64; omega
  rw [e1, e2, e4, or_group k acc c hk h]
theorem group0 (k acc : Nat) (hk : k ≤ 8) (h : acc < pw k) :
    bits .or .i64 (acc : Int) (wrap64 (wrap64 (bits .and .u8 0 127) * 2 ^ (7 * k))) = (acc : Int) := by
  have := group k acc 0 hk h
  simpa using this
theorem acc_next (acc k : Nat) (c : UInt8) (h : acc < pw k) : acc + pw k * (c.toNat % 128) < pw (k + 1) := by
  rw [pw_succ]; exact acc_lt acc _ _ h
theorem post_some {b a : Nat} {s : ByteArray} {r : Option (Nat × Nat)} {v a' : Int} {w' : World} (n k : Nat) (h : r = some (n, k)) (hv : v = n) (ha : a' = ((a + k : Nat) : Int)) (hc : Cur w' b s a' 0) :
    NumPost b a s r (.returned (.int .i64 v)) w' := by
  subst h hv ha; exact ⟨rfl, hc⟩
theorem post_none {b a : Nat} {s : ByteArray} {r : Option (Nat × Nat)} {v a' : Int} {w' : World} (h : r = none) (hc : Cur w' b s a' 4) :
    NumPost b a s r (.returned (.int .i64 v)) w' := by
  subst h; exact ⟨_, _, rfl, hc⟩
set_option maxRecDepth 100000 in
set_option maxHeartbeats 400000 in
theorem number_any (b a : Nat) (s : ByteArray) (w : World) (h : Cur w b s a 0) (ha : a ≤ s.size) (hs : s.size ≤ 140737488355328) :
    Calls Try.prog 15 #[.pointer (some ⟨b, 0, none⟩)] w fun e w' => NumPost b a s (uv 0 0 (from_ s a)) e w' ∧ Below b w w' := by
  go_enter Try.func15, Try.ntmps15
  go_wp2
  go_loopw [3, 4] (fun n sh wr => ∃ k acc : Nat, k ≤ 9 ∧ sh = .int .i64 (7 * (k : Int)) ∧ n = .int .i64 acc ∧ a + k ≤ s.size ∧ Hid (acc < pw k) ∧ Hid (Cur wr b s ((a + k : Nat) : Int) 0) ∧ Below b w wr ∧ Hid (uv 0 0 (from_ s a) = uv k acc (from_ s (a + k)))) (fun _ sh _ => 63 - (intOf sh).toNat)
  case atStart => exact ⟨0, 0, by omega, rfl, rfl, ha, (by show 0 < pw 0; decide), h, Below.refl _ _, rfl⟩
  case round =>
    obtain ⟨k, acc, hk, rfl, rfl, hak, HA, HC, hb, HU⟩ := hrel
    by_cases hk9 : k < 9
    · by_cases hlt : a + k < s.size
      · go_wp2_with fail
        refine (next_some b (a + k) s _ HC.out hlt hs).mono ?_
        rintro e w1 ⟨rfl, hc1, hb1⟩
        have HC1 : Hid (Cur w1 b s ((a + k + 1 : Nat) : Int) 0) := hc1
        have hbb : Below b w w1 := hb.trans hb1
        clear hc1 hb hb1
        have hc : (s[a + k].toNat : Int) ≤ 255 := by have := s[a + k].toNat_lt; omega
        go_wp2_with fail
        · have c0 : s[a + k].toNat = 0 := by assumption
          have k0 : 0 < 7 * (k : Int) := by assumption
          refine (fail_first b s _ 4 _ HC1.out).mono ?_
          rintro e w2 ⟨rfl, hc2, hb2⟩
          go_wp2
          go_ret
          exact ⟨post_none (by rw [HU.out, from_cons s _ hlt, uv_needless _ acc _ _ (by omega) c0 (by omega)]) hc2, hbb.trans hb2⟩
        · have c0 : s[a + k].toNat = 0 := by assumption
          have k0 : 7 * (k : Int) ≤ 0 := by assumption
          go_ret
          exact ⟨post_some _ _ (by rw [HU.out, from_cons s _ hlt, uv_last _ acc _ _ (by omega) (by omega) (by omega)]) (by rw [group0 k acc (by omega) HA.out, c0]; simp) (by omega) HC1.out, hbb⟩
        · have c0 : ¬ s[a + k].toNat = 0 := by assumption
          have c1 : (s[a + k].toNat : Int) < 128 := by assumption
          go_ret
          exact ⟨post_some _ _ (by rw [HU.out, from_cons s _ hlt, uv_last _ acc _ _ (by omega) (by omega) (by omega)]) (by rw [group k acc _ (by omega) HA.out]) (by omega) HC1.out, hbb⟩
        · have c1 : 128 ≤ (s[a + k].toNat : Int) := by assumption
          have eu : uv 0 0 (from_ s a) = uv (k + 1) (acc + pw k * (s[a + k].toNat % 128)) (from_ s (a + (k + 1))) := by
            rw [HU.out, from_cons s _ hlt, uv_more _ acc _ _ (by omega) (by omega)]; rfl
          go_roundw
          case rel => exact ⟨k + 1, acc + pw k * (s[a + k].toNat % 128), by omega, by go_num, by rw [group k acc _ (by omega) HA.out], by omega, acc_next acc k _ HA.out, HC1.out, hbb, eu⟩
          case measure => simp [intOf]; omega
      · have hend : a + k = s.size := by omega
        have HC0 : Hid (Cur wr b s s.size 0) := by have := HC.out; rw [hend] at this; exact this
        have HUN : Hid (uv 0 0 (from_ s a) = none) := by show _ = _; rw [HU.out, from_end s _ (by omega), uv_nil]
        clear HC HU hend
        go_wp2_with fail
        refine (next_end b s _ HC0.out hs).mono ?_
        rintro e w1 ⟨rfl, hc1, hb1⟩
        have HC1 : Hid (Cur w1 b s s.size 4) := hc1
        have hbb : Below b w w1 := hb.trans hb1
        clear hc1 hb hb1
        go_wp2_with fail
        · refine (fail_later b s _ 4 4 _ HC1.out (by decide)).mono ?_
          rintro e w2 ⟨rfl, hc2, hb2⟩
          go_wp2
          go_ret
          exact ⟨post_none HUN.out hc2, hbb.trans hb2⟩
        · go_ret
          exact ⟨post_none HUN.out HC1.out, hbb⟩
    · obtain rfl : k = 9 := by omega
      have HUN : Hid (uv 0 0 (from_ s a) = none) := by show _ = _; rw [HU.out, uv_nine]
      go_wp2_with fail
      refine (fail_first b s _ 4 _ HC.out).mono ?_
      rintro e w2 ⟨rfl, hc2, hb2⟩
      go_wp2
      go_ret
      exact ⟨post_none HUN.out hc2, hb.trans hb2⟩
set_option maxRecDepth 100000 in
set_option maxHeartbeats 400000 in
theorem number_err (b : Nat) (s : ByteArray) (a y : Int) (w : World) (h : Cur w b s a y) (hy : (y == 0) = false) (hs : s.size ≤ 140737488355328) :
    Calls Try.prog 15 #[.pointer (some ⟨b, 0, none⟩)] w fun e w' => (∃ v : Int, e = .returned (.int .i64 v)) ∧ Cur w' b s a y ∧ Below b w w' := by
  go_enter Try.func15, Try.ntmps15
  go_wp2
  refine wp_loop_rounds 1 ?_
  rw [rounds_succ]
  go_wp2_with fail
  refine (next_err b s a y _ h hy hs).mono ?_
  rintro e w1 ⟨rfl, hc1, hb1⟩
  go_wp2
  go_ret
  exact ⟨⟨_, rfl⟩, hc1, hb1⟩
end Go.Proofs.Ytfjbmkicemlfjaa.wireVarints
