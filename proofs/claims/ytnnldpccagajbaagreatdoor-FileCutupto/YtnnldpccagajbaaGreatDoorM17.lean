import Derived.Test.YtnnldpccagajbaaGreatDoorM16
import Derived.Test.YtnnldpccagajbaaGreatDoorM07
import Derived.Deep.RegionHeld3
/-
  The document's paged and headed, walked.
-/
namespace Go.Proofs.YtnnldpccagajbaaGreatDoor
open Go.ChangeShapes Go.WideShapes Go.ChangeAt Go.RowKit
set_option linter.unusedVariables false
/-- what 'paged' answers, as values -/
def pgd (a : Nat) : Except Nat (List UInt8 × Nat) → Value
  | .error e => .tuple #[.string (str []), .int .i64 0, .int .i64 (e : Nat)]
  | .ok (s, m) => .tuple #[.string (str s), .int .i64 ((a + m : Nat) : Int), .int .i64 0]
theorem cut_text (s : ByteArray) (a m : Nat) : s.extract a (a + m) = str ((from_ s a).take m) := by
  apply WideShapes.bytes_inj
  rw [Lib.extract_data, data_str, from_, show a + m - a = m from by omega]
set_option maxRecDepth 100000 in
set_option maxHeartbeats 1000000 in
theorem rpaged_any (d : ByteArray) (a : Nat) (w : World) (hd : d.size ≤ 1073741824) (ha : a ≤ d.size) :
    Calls Tryz.prog 21 #[.string d, .int .i64 a] w fun e w' => e = .returned (pgd a (pageOf (from_ d a))) ∧ Below w.heap.size w w' := by
  cases hu : uv 0 0 (from_ d a) with
  | none =>
    have HF : Hid (pageOf (from_ d a) = .error 4) := by show _ = _; unfold pageOf; rw [hu]
    have HU : Hid (uv 0 0 (from_ d (a : Int).toNat) = none) := by show _ = _; rw [Int.toNat_natCast]; exact hu
    clear hu
    go_enter Tryz.func21, Tryz.ntmps21
    go_wp2_with fail
    refine (runv_none d a _ (by omega) (by omega) (by omega) HU).mono ?_
    rintro e w1 ⟨rfl, rfl⟩
    go_wp2
    go_ret3
    exact ⟨by rw [HF.out]; rfl, Below.refl _ _⟩
  | some q =>
    obtain ⟨n, k⟩ := q
    obtain ⟨hk0, hk, hn⟩ := uv_in d a n k ha hu
    have HU : Hid (uv 0 0 (from_ d (a : Int).toNat) = some (n, k)) := by show _ = _; rw [Int.toNat_natCast]; exact hu
    have HL : Hid ((from_ d a).length = d.size - a) := from_len d a
    by_cases h1 : d.size - (a + k) < n + 4
    · have HF : Hid (pageOf (from_ d a) = .error 4) := by
        show _ = _; unfold pageOf; rw [hu]; simp only; rw [if_pos (by rw [HL.out]; omega)]
      clear hu
      by_cases h2 : d.size - (a + k) < n
      · have c1 : (d.size : Int) - ((a : Int) + (k : Int)) < (n : Int) := by omega
        go_enter Tryz.func21, Tryz.ntmps21
        go_wp2_with fail
        refine (runv_some d a n k _ (by omega) (by omega) (by omega) HU).mono ?_
        rintro e w1 ⟨rfl, rfl⟩
        go_wp2
        go_ret3
        exact ⟨by rw [HF.out]; rfl, Below.refl _ _⟩
      · have c1 : (n : Int) ≤ (d.size : Int) - ((a : Int) + (k : Int)) := by omega
        have c2 : (d.size : Int) - ((a : Int) + (k : Int)) - (n : Int) < 4 := by omega
        go_enter Tryz.func21, Tryz.ntmps21
        go_wp2_with fail
        refine (runv_some d a n k _ (by omega) (by omega) (by omega) HU).mono ?_
        rintro e w1 ⟨rfl, rfl⟩
        go_wp2
        go_ret3
        exact ⟨by rw [HF.out]; rfl, Below.refl _ _⟩
    · have c1 : (n : Int) ≤ (d.size : Int) - ((a : Int) + (k : Int)) := by omega
      have c2 : 4 ≤ (d.size : Int) - ((a : Int) + (k : Int)) - (n : Int) := by omega
      have b1 : (0 : Int) ≤ (a : Int) + (k : Int) + (n : Int) := by omega
      have b2 : (a : Int) + (k : Int) + (n : Int) ≤ (a : Int) + (k : Int) + (n : Int) + 4 := by omega
      have b3 : (a : Int) + (k : Int) + (n : Int) + 4 ≤ (d.size : Int) := by omega
      have q1 : IntKind.i64.wrap ((a : Int) + (k : Int) + (n : Int)) = (a : Int) + (k : Int) + (n : Int) := by rw [IntKind.wrap_i64]; omega
      have q2 : IntKind.i64.wrap ((a : Int) + (k : Int) + (n : Int) + 4) = (a : Int) + (k : Int) + (n : Int) + 4 := by rw [IntKind.wrap_i64]; omega
      have HT : Hid (d.extract (a + k) (a + k + n) = str ((from_ d (a + k)).take n)) := cut_text d (a + k) n
      have HQ : Hid (d.extract (a + k + n) (a + k + n + 4) = str ((from_ d (a + k + n)).take 4)) := cut_text d (a + k + n) 4
      have HZ : Hid ((d.extract (a + k) (a + k + n)).size ≤ 1073741824) := by
        show _ ≤ _
        rw [ByteArray.size_extract]; omega
      have HD1 : Hid ((from_ d a).drop k = from_ d (a + k)) := from_drop d a k
      have HD2 : Hid ((from_ d a).drop (k + n) = from_ d (a + k + n)) := by show _ = _; rw [from_drop, Nat.add_assoc]
      obtain ⟨ss, HSS⟩ : ∃ ss, Hid (ss = str (Crc.sum (d.extract (a + k) (a + k + n)).data.toList)) := ⟨_, (rfl : str (Crc.sum (d.extract (a + k) (a + k + n)).data.toList) = _)⟩
      have HN1 : Hid (((a : Int) + (k : Int) + (n : Int)).toNat = a + k + n) := by show _ = _; omega
      have HN2 : Hid (((a : Int) + (k : Int) + (n : Int) + 4).toNat = a + k + n + 4) := by show _ = _; omega
      by_cases h3 : Crc.sum ((from_ d (a + k)).take n) = (from_ d (a + k + n)).take 4
      · have HF : Hid (pageOf (from_ d a) = .ok ((from_ d (a + k)).take n, k + n + 4)) := by
          show _ = _; unfold pageOf; rw [hu]; simp only; rw [if_neg (by rw [HL.out]; omega), HD1.out, HD2.out, if_pos h3]
        have hse : (ss.toList == (d.extract ((a : Int) + (k : Int) + (n : Int)).toNat ((a : Int) + (k : Int) + (n : Int) + 4).toNat).toList) = true := by
          rw [HN1.out, HN2.out, HSS.out, HT.out, HQ.out, data_str, toList_str, toList_str, h3]; simp
        clear hu h3
        go_enter Tryz.func21, Tryz.ntmps21
        go_wp2_with fail
        refine (runv_some d a n k _ (by omega) (by omega) (by omega) HU).mono ?_
        rintro e w1 ⟨rfl, rfl⟩
        have HSM : Hid (∀ wx : World, (∃ n, wx = w.drewN n) → Calls Tryz.prog 20 #[.string (d.extract (a + k) (a + k + n))] wx fun e w' => e = .returned (.string ss) ∧ Below w.heap.size w w') := by
          rintro wx ⟨n, rfl⟩
          refine (rsum_any _ _ (by have := HZ.out; omega)).mono ?_
          rintro e w2 ⟨rfl, hb2⟩
          exact ⟨by rw [HSS.out], (below_drewN (Below.refl _ _) n).trans hb2⟩
        go_wp2_with fail
        go_region_held3 (fun w' => True) (trivial) (first | (go_at_call 20; refine (HSM.out _ ⟨_, rfl⟩).mono ?_; rintro e w2 ⟨rfl, hb2⟩))
        all_goals go_wp2
        all_goals go_ret3
        all_goals exact ⟨by rw [HF.out, HT.out]; show _ = Ending.returned (.tuple #[.string (str _), .int .i64 _, .int .i64 0]); rw [show ((a + (k + n + 4) : Nat) : Int) = (a : Int) + k + n + 4 from by push_cast; omega]; rfl, hb2⟩
      · have HF : Hid (pageOf (from_ d a) = .error 5) := by
          show _ = _; unfold pageOf; rw [hu]; simp only; rw [if_neg (by rw [HL.out]; omega), HD1.out, HD2.out, if_neg h3]
        have hse : (ss.toList == (d.extract ((a : Int) + (k : Int) + (n : Int)).toNat ((a : Int) + (k : Int) + (n : Int) + 4).toNat).toList) = false := by
          rw [HN1.out, HN2.out, HSS.out, HT.out, HQ.out, data_str, toList_str, toList_str]; simpa using h3
        clear hu h3
        go_enter Tryz.func21, Tryz.ntmps21
        go_wp2_with fail
        refine (runv_some d a n k _ (by omega) (by omega) (by omega) HU).mono ?_
        rintro e w1 ⟨rfl, rfl⟩
        have HSM : Hid (∀ wx : World, (∃ n, wx = w.drewN n) → Calls Tryz.prog 20 #[.string (d.extract (a + k) (a + k + n))] wx fun e w' => e = .returned (.string ss) ∧ Below w.heap.size w w') := by
          rintro wx ⟨n, rfl⟩
          refine (rsum_any _ _ (by have := HZ.out; omega)).mono ?_
          rintro e w2 ⟨rfl, hb2⟩
          exact ⟨by rw [HSS.out], (below_drewN (Below.refl _ _) n).trans hb2⟩
        go_wp2_with fail
        go_region_held3 (fun w' => True) (trivial) (first | (go_at_call 20; refine (HSM.out _ ⟨_, rfl⟩).mono ?_; rintro e w2 ⟨rfl, hb2⟩))
        all_goals go_wp2
        all_goals go_ret3
        all_goals exact ⟨by rw [HF.out]; rfl, hb2⟩
/-- what 'headed' answers -/
def Headed (r : Option (List UInt8 × Nat × Nat)) (e : Ending) : Prop := match r with
  | none => ∃ (x : ByteArray) (y z : Int), e = .returned (.tuple #[.string x, .int .i64 y, .int .i64 z, .bool false])
  | some (name, ar, m) => e = .returned (.tuple #[.string (str name), .int .i64 (ar : Nat), .int .i64 (m : Nat), .bool true])
theorem headed_none {r : Option (List UInt8 × Nat × Nat)} {b : Bool} (h : r = none) (x : ByteArray) (y z : Int) (hb : b = false) : Headed r (.returned (.tuple #[.string x, .int .i64 y, .int .i64 z, .bool b])) := by subst h hb; exact ⟨x, y, z, rfl⟩
theorem headed_some {r : Option (List UInt8 × Nat × Nat)} {name : List UInt8} {ar m : Nat} {x : ByteArray} {y z : Int} {b : Bool} (h : r = some (name, ar, m)) (hx : x = str name) (hy : y = ar) (hz : z = m) (hb : b = true) : Headed r (.returned (.tuple #[.string x, .int .i64 y, .int .i64 z, .bool b])) := by
  subst h hx hy hz hb; rfl
theorem results_four {fn : Func} {t u v x : Tmp} (h : fn.results = #[.tmp t, .tmp u, .tmp v, .tmp x]) (tmps : Array Value) (P : Program) (w : World) :
    (results fn tmps).run P w = .ok (.tuple #[tmps.getD t undef, tmps.getD u undef, tmps.getD v undef, tmps.getD x undef]) w := by
  simp [results, h]
set_option maxRecDepth 100000 in
set_option maxHeartbeats 1000000 in
theorem rheaded_any (d : ByteArray) (w : World) (hd : d.size ≤ 1073741824) :
    Calls Tryz.prog 22 #[.string d] w fun e w' => Headed (headOf d.data.toList) e ∧ w = w' := by
  have H0 : Hid (d.data.toList = from_ d 0) := (from_zero d).symm
  cases hu : uv 0 0 (from_ d 0) with
  | none =>
    have HF : Hid (headOf d.data.toList = none) := by show _ = _; unfold headOf; rw [H0.out, hu]
    have HU : Hid (uv 0 0 (from_ d (0 : Int).toNat) = none) := hu
    clear hu
    go_enter Tryz.func22, Tryz.ntmps22
    go_wp2_with fail
    refine (runv_none d 0 _ (by omega) (by omega) (by omega) HU).mono ?_
    rintro e w1 ⟨rfl, rfl⟩
    go_wp2
    ((try simp only [Exit.inBlock, Exit.then]); refine bodyPost_ret (results_four rfl _ _ _) rfl ?_)
    exact ⟨headed_none HF.out _ _ _ rfl, rfl⟩
  | some q =>
    obtain ⟨n, k⟩ := q
    obtain ⟨hk0, hk, hn⟩ := uv_in d 0 n k (by omega) hu
    have HU : Hid (uv 0 0 (from_ d (0 : Int).toNat) = some (n, k)) := hu
    have HL : Hid ((from_ d 0).length = d.size) := by show _ = _; rw [from_len]; rfl
    by_cases h1 : d.size - k < n
    · have HF : Hid (headOf d.data.toList = none) := by show _ = _; unfold headOf; rw [H0.out, hu]; simp only; rw [if_pos (by rw [HL.out]; omega)]
      have c1 : (d.size : Int) - (k : Int) < (n : Int) := by omega
      clear hu
      go_enter Tryz.func22, Tryz.ntmps22
      go_wp2_with fail
      refine (runv_some d 0 n k _ (by omega) (by omega) (by omega) HU).mono ?_
      rintro e w1 ⟨rfl, rfl⟩
      go_wp2
      ((try simp only [Exit.inBlock, Exit.then]); refine bodyPost_ret (results_four rfl _ _ _) rfl ?_)
      exact ⟨headed_none HF.out _ _ _ rfl, rfl⟩
    · have c1 : (n : Int) ≤ (d.size : Int) - (k : Int) := by omega
      have hkn : k + n ≤ d.size := by omega
      have HD1 : Hid ((from_ d 0).drop (k + n) = from_ d (k + n)) := by show _ = _; rw [from_drop, Nat.zero_add]
      have HDK : Hid ((from_ d 0).drop k = from_ d k) := by show _ = _; rw [from_drop, Nat.zero_add]
      have HF0 : Hid (headOf d.data.toList = match uv 0 0 (from_ d (k + n)) with
          | none => none
          | some (ar, k2) => if 8 < ar then none else match uv 0 0 (from_ d (k + n + k2)) with
            | none => none
            | some (m, k3) => if isName ((from_ d k).take n) = true ∧ k + n + k2 + k3 = d.size ∧ m ≤ 2000 then some ((from_ d k).take n, ar, m) else none) := by
        show _ = _
        unfold headOf; rw [H0.out, hu]; simp only
        rw [if_neg (by rw [HL.out]; omega), HD1.out, HDK.out, HL.out]
        simp only [from_drop, Nat.zero_add]
        rfl
      clear hu
      cases hv : uv 0 0 (from_ d (k + n)) with
      | none =>
        have HF : Hid (headOf d.data.toList = none) := by show _ = _; rw [HF0.out, hv]
        have HV : Hid (uv 0 0 (from_ d ((k : Int) + (n : Int)).toNat) = none) := by show _ = _; rw [show ((k : Int) + (n : Int)).toNat = k + n from by omega]; exact hv
        clear hv HF0
        go_enter Tryz.func22, Tryz.ntmps22
        go_wp2_with fail
        refine (runv_some d 0 n k _ (by omega) (by omega) (by omega) HU).mono ?_
        rintro e w1 ⟨rfl, rfl⟩
        go_wp2_with fail
        refine (runv_none d _ _ (by omega) (by omega) (by omega) HV).mono ?_
        rintro e w2 ⟨rfl, rfl⟩
        go_wp2
        ((try simp only [Exit.inBlock, Exit.then]); refine bodyPost_ret (results_four rfl _ _ _) rfl ?_)
        exact ⟨headed_none HF.out _ _ _ rfl, rfl⟩
      | some q2 =>
        obtain ⟨ar, k2⟩ := q2
        obtain ⟨hk20, hk2, har⟩ := uv_in d (k + n) ar k2 hkn hv
        have HV : Hid (uv 0 0 (from_ d ((k : Int) + (n : Int)).toNat) = some (ar, k2)) := by show _ = _; rw [show ((k : Int) + (n : Int)).toNat = k + n from by omega]; exact hv
        by_cases h8 : 8 < ar
        · have HF : Hid (headOf d.data.toList = none) := by show _ = _; rw [HF0.out, hv]; simp only; rw [if_pos h8]
          clear hv HF0
          go_enter Tryz.func22, Tryz.ntmps22
          go_wp2_with fail
          refine (runv_some d 0 n k _ (by omega) (by omega) (by omega) HU).mono ?_
          rintro e w1 ⟨rfl, rfl⟩
          go_wp2_with fail
          refine (runv_some d _ ar k2 _ (by omega) (by omega) (by omega) HV).mono ?_
          rintro e w2 ⟨rfl, rfl⟩
          go_wp2
          ((try simp only [Exit.inBlock, Exit.then]); refine bodyPost_ret (results_four rfl _ _ _) rfl ?_)
          exact ⟨headed_none HF.out _ _ _ rfl, rfl⟩
        · have HF1 : Hid (headOf d.data.toList = match uv 0 0 (from_ d (k + n + k2)) with
            | none => none
            | some (m, k3) => if isName ((from_ d k).take n) = true ∧ k + n + k2 + k3 = d.size ∧ m ≤ 2000 then some ((from_ d k).take n, ar, m) else none) := by
            show _ = _; rw [HF0.out, hv]; simp only; rw [if_neg h8]
          have HT : Hid (d.extract k (k + n) = str ((from_ d k).take n)) := cut_text d k n
          have HZ : Hid ((d.extract k (k + n)).size ≤ 1073741824) := by
            show _ ≤ _
            rw [ByteArray.size_extract]; omega
          have HNM : Hid (isName (d.extract k (k + n)).data.toList = isName ((from_ d k).take n)) := by show _ = _; rw [HT.out, data_str]
          clear hv HF0
          cases hz : uv 0 0 (from_ d (k + n + k2)) with
          | none =>
            have HF : Hid (headOf d.data.toList = none) := by show _ = _; rw [HF1.out, hz]
            have HW : Hid (uv 0 0 (from_ d ((k : Int) + (n : Int) + (k2 : Int)).toNat) = none) := by show _ = _; rw [show ((k : Int) + (n : Int) + (k2 : Int)).toNat = k + n + k2 from by omega]; exact hz
            clear hz HF1
            have cz : ((-1 : Int) == (d.size : Int)) = false := by rw [beq_eq_false_iff_ne]; omega
            cases hnm : isName (d.extract k (k + n)).data.toList
            all_goals
              go_enter Tryz.func22, Tryz.ntmps22
              go_wp2_with fail
              refine (runv_some d 0 n k _ (by omega) (by omega) (by omega) HU).mono ?_
              rintro e w1 ⟨rfl, rfl⟩
              go_wp2_with fail
              refine (runv_some d _ ar k2 _ (by omega) (by omega) (by omega) HV).mono ?_
              rintro e w2 ⟨rfl, rfl⟩
              go_wp2_with fail
              refine (runv_none d _ _ (by omega) (by omega) (by omega) HW).mono ?_
              rintro e w3 ⟨rfl, rfl⟩
              go_wp2_with fail
              refine (risname_any (d.extract k (k + n)) _ (by have := HZ.out; omega)).mono ?_
              rintro e w4 ⟨rfl, rfl⟩
              rw [hnm]
              go_wp2
              ((try simp only [Exit.inBlock, Exit.then]); refine bodyPost_ret (results_four rfl _ _ _) rfl ?_)
              exact ⟨headed_none HF.out _ _ _ rfl, rfl⟩
          | some q3 =>
            obtain ⟨m, k3⟩ := q3
            obtain ⟨hk30, hk3, hm⟩ := uv_in d (k + n + k2) m k3 (by omega) hz
            have HW : Hid (uv 0 0 (from_ d ((k : Int) + (n : Int) + (k2 : Int)).toNat) = some (m, k3)) := by show _ = _; rw [show ((k : Int) + (n : Int) + (k2 : Int)).toNat = k + n + k2 from by omega]; exact hz
            have HF2 : Hid (headOf d.data.toList = if isName ((from_ d k).take n) = true ∧ k + n + k2 + k3 = d.size ∧ m ≤ 2000 then some ((from_ d k).take n, ar, m) else none) := by show _ = _; rw [HF1.out, hz]
            clear hz HF1
            cases hnm : isName (d.extract k (k + n)).data.toList with
            | false =>
              have HF : Hid (headOf d.data.toList = none) := by
                show _ = _; rw [HF2.out, if_neg (by rw [← HNM.out, hnm]; simp)]
              clear HF2
              go_enter Tryz.func22, Tryz.ntmps22
              go_wp2_with fail
              refine (runv_some d 0 n k _ (by omega) (by omega) (by omega) HU).mono ?_
              rintro e w1 ⟨rfl, rfl⟩
              go_wp2_with fail
              refine (runv_some d _ ar k2 _ (by omega) (by omega) (by omega) HV).mono ?_
              rintro e w2 ⟨rfl, rfl⟩
              go_wp2_with fail
              refine (runv_some d _ m k3 _ (by omega) (by omega) (by omega) HW).mono ?_
              rintro e w3 ⟨rfl, rfl⟩
              go_wp2_with fail
              refine (risname_any (d.extract k (k + n)) _ (by have := HZ.out; omega)).mono ?_
              rintro e w4 ⟨rfl, rfl⟩
              rw [hnm]
              go_wp2
              ((try simp only [Exit.inBlock, Exit.then]); refine bodyPost_ret (results_four rfl _ _ _) rfl ?_)
              exact ⟨headed_none HF.out _ _ _ rfl, rfl⟩
            | true =>
              by_cases he : k + n + k2 + k3 = d.size
              · have ce : ((k : Int) + (n : Int) + (k2 : Int) + (k3 : Int) == (d.size : Int)) = true := by rw [beq_iff_eq]; omega
                by_cases hm2 : m ≤ 2000
                · have HF : Hid (headOf d.data.toList = some ((from_ d k).take n, ar, m)) := by
                    show _ = _; rw [HF2.out, if_pos ⟨by rw [← HNM.out, hnm], he, hm2⟩]
                  clear HF2 he
                  go_enter Tryz.func22, Tryz.ntmps22
                  go_wp2_with fail
                  refine (runv_some d 0 n k _ (by omega) (by omega) (by omega) HU).mono ?_
                  rintro e w1 ⟨rfl, rfl⟩
                  go_wp2_with fail
                  refine (runv_some d _ ar k2 _ (by omega) (by omega) (by omega) HV).mono ?_
                  rintro e w2 ⟨rfl, rfl⟩
                  go_wp2_with fail
                  refine (runv_some d _ m k3 _ (by omega) (by omega) (by omega) HW).mono ?_
                  rintro e w3 ⟨rfl, rfl⟩
                  go_wp2_with fail
                  refine (risname_any (d.extract k (k + n)) _ (by have := HZ.out; omega)).mono ?_
                  rintro e w4 ⟨rfl, rfl⟩
                  rw [hnm]
                  go_wp2
                  ((try simp only [Exit.inBlock, Exit.then]); refine bodyPost_ret (results_four rfl _ _ _) rfl ?_)
                  refine ⟨?_, rfl⟩
                  exact headed_some HF.out HT.out rfl rfl (decide_eq_true (by omega))
                · have HF : Hid (headOf d.data.toList = none) := by
                    show _ = _; rw [HF2.out, if_neg (by omega)]
                  clear HF2 he
                  go_enter Tryz.func22, Tryz.ntmps22
                  go_wp2_with fail
                  refine (runv_some d 0 n k _ (by omega) (by omega) (by omega) HU).mono ?_
                  rintro e w1 ⟨rfl, rfl⟩
                  go_wp2_with fail
                  refine (runv_some d _ ar k2 _ (by omega) (by omega) (by omega) HV).mono ?_
                  rintro e w2 ⟨rfl, rfl⟩
                  go_wp2_with fail
                  refine (runv_some d _ m k3 _ (by omega) (by omega) (by omega) HW).mono ?_
                  rintro e w3 ⟨rfl, rfl⟩
                  go_wp2_with fail
                  refine (risname_any (d.extract k (k + n)) _ (by have := HZ.out; omega)).mono ?_
                  rintro e w4 ⟨rfl, rfl⟩
                  rw [hnm]
                  go_wp2
                  ((try simp only [Exit.inBlock, Exit.then]); refine bodyPost_ret (results_four rfl _ _ _) rfl ?_)
                  exact ⟨headed_none HF.out _ _ _ (decide_eq_false (by omega)), rfl⟩
              · have ce : ((k : Int) + (n : Int) + (k2 : Int) + (k3 : Int) == (d.size : Int)) = false := by rw [beq_eq_false_iff_ne]; omega
                have HF : Hid (headOf d.data.toList = none) := by
                  show _ = _; rw [HF2.out, if_neg (by omega)]
                clear HF2 he
                go_enter Tryz.func22, Tryz.ntmps22
                go_wp2_with fail
                refine (runv_some d 0 n k _ (by omega) (by omega) (by omega) HU).mono ?_
                rintro e w1 ⟨rfl, rfl⟩
                go_wp2_with fail
                refine (runv_some d _ ar k2 _ (by omega) (by omega) (by omega) HV).mono ?_
                rintro e w2 ⟨rfl, rfl⟩
                go_wp2_with fail
                refine (runv_some d _ m k3 _ (by omega) (by omega) (by omega) HW).mono ?_
                rintro e w3 ⟨rfl, rfl⟩
                go_wp2_with fail
                refine (risname_any (d.extract k (k + n)) _ (by have := HZ.out; omega)).mono ?_
                rintro e w4 ⟨rfl, rfl⟩
                rw [hnm]
                go_wp2
                ((try simp only [Exit.inBlock, Exit.then]); refine bodyPost_ret (results_four rfl _ _ _) rfl ?_)
                exact ⟨headed_none HF.out _ _ _ rfl, rfl⟩
end Go.Proofs.YtnnldpccagajbaaGreatDoor
