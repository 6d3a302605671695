import Derived.Test.YtnnldpccagajbaaGreatDoorM19
import Derived.Test.YtnnldpccagajbaaGreatDoorM14
/-
  The document's Decode, walked.
-/
namespace Go.Proofs.YtnnldpccagajbaaGreatDoor
open Go.ChangeShapes Go.WideShapes Go.ChangeAt Go.RowKit
set_option linter.unusedVariables false
/-- what Decode answers, the program's and the document's -/
def Decoded (base : Nat) (r : Nat × Nat × List UInt8 × Nat × List (List (List UInt8))) (e : Ending) (w' : World) : Prop :=
  ∃ v us, e = .returned (.tuple #[.agg #[.string (str r.2.2.1), .int .i64 (r.2.2.2.1 : Nat), v], .int .i64 (r.1 : Nat), .int .i64 (r.2.1 : Nat)]) ∧ Deep base w' v us r.2.2.2.2
theorem decoded_bad {base : Nat} {r : Nat × Nat × List UInt8 × Nat × List (List (List UInt8))} {w' : World} {x y : Int} (e a : Nat) (h : r = (e, a, [], 0, [])) (hx : x = e) (hy : y = a) : Decoded base r (.returned (.tuple #[.agg #[.string { data := #[] }, .int .i64 0, .slice none 0 0], .int .i64 x, .int .i64 y])) w' := by
  subst h hx hy; exact ⟨_, [], rfl, Deep.nil _ _⟩
theorem decoded_ok {base : Nat} {r : Nat × Nat × List UInt8 × Nat × List (List (List UInt8))} {w' : World} {name : List UInt8} {ar : Nat} {rows : List (List (List UInt8))} {v : Value} {us : List Value} (h : r = (0, 0, name, ar, rows)) (hd : Deep base w' v us rows) : Decoded base r (.returned (.tuple #[.agg #[.string (str name), .int .i64 (ar : Nat), v], .int .i64 0, .int .i64 0])) w' := by
  subst h; exact ⟨v, us, rfl, hd⟩
theorem decode_long (st : Bool) (d : List UInt8) (h : 65536 < d.length) : decode st d = (1, 0, [], 0, []) := by unfold decode; rw [if_pos h]
theorem decode_open (st : Bool) (d : List UInt8) (h : ¬ 65536 < d.length) (hs : ¬ sealed d) : decode st d = (4, 0, [], 0, []) := by unfold decode; rw [if_neg h, if_pos hs]
theorem decode_split (st : Bool) (d : List UInt8) (h : ¬ 65536 < d.length) (hs : sealed d) (e a : Nat) (hp : splitF (d.take (d.length - 4)) = .error (e, a)) : decode st d = (e, a, [], 0, []) := by unfold decode; rw [if_neg h, if_neg (by simpa using hs), hp]
theorem decode_none (st : Bool) (d : List UInt8) (h : ¬ 65536 < d.length) (hs : sealed d) (pages : List (List UInt8)) (hp : splitF (d.take (d.length - 4)) = .ok pages) (hr : related st pages = none) : decode st d = (4, 0, [], 0, []) := by
  unfold decode; rw [if_neg h, if_neg (by simpa using hs), hp]; simp only; rw [hr]
theorem decode_other (st : Bool) (d : List UInt8) (h : ¬ 65536 < d.length) (hs : sealed d) (pages : List (List UInt8)) (hp : splitF (d.take (d.length - 4)) = .ok pages) (name : List UInt8) (ar : Nat) (rows : List (List (List UInt8))) (hr : related st pages = some (name, ar, rows)) (he : encode name ar rows ≠ (d, 0, 0)) : decode st d = (4, 0, [], 0, []) := by
  unfold decode; rw [if_neg h, if_neg (by simpa using hs), hp]; simp only; rw [hr]; simp only; rw [if_neg he]
theorem decode_fine (st : Bool) (d : List UInt8) (h : ¬ 65536 < d.length) (hs : sealed d) (pages : List (List UInt8)) (hp : splitF (d.take (d.length - 4)) = .ok pages) (name : List UInt8) (ar : Nat) (rows : List (List (List UInt8))) (hr : related st pages = some (name, ar, rows)) (he : encode name ar rows = (d, 0, 0)) : decode st d = (0, 0, name, ar, rows) := by
  unfold decode; rw [if_neg h, if_neg (by simpa using hs), hp]; simp only; rw [hr]; simp only; rw [if_pos he]
theorem encode_iff (name : List UInt8) (ar : Int) (rows : List (List (List UInt8))) (d : List UInt8) : encode name ar rows = (d, 0, 0) ↔ (encode name ar rows).2.1 = 0 ∧ (encode name ar rows).1 = d := by
  constructor
  · intro h; rw [h]; exact ⟨rfl, rfl⟩
  · rintro ⟨h1, h2⟩
    obtain ⟨te, ti, L, ht⟩ : ∃ te ti L, tidy name ar rows = (te, ti, L) := ⟨_, _, _, rfl⟩
    by_cases he : te = 0
    · subst he
      rw [encode_ok _ _ _ _ _ ht] at h1 h2 ⊢
      split at h1
      · simp at h1
      · rename_i hb; rw [if_neg hb] at h2 ⊢; rw [← h2]
    · rw [encode_bad _ _ _ _ _ _ ht he] at h1
      exact absurd h1 he
/-- what is left to be read, at a page's place -/
def splitK (k p wt : Nat) (done : List (List UInt8)) (b : List UInt8) : Except (Nat × Nat) (List (List UInt8)) :=
  match pagesN (wt - k) p (b.drop p) with
  | .error x => .error x
  | .ok l => .ok (done ++ l)
theorem splitF_none (b : List UInt8) (e : Nat) (h : pageOf (b.drop 4) = .error e) : splitF b = .error (e, 4) := by unfold splitF; rw [h]
theorem splitF_first (b s : List UInt8) (m : Nat) (h : pageOf (b.drop 4) = .ok (s, m)) : splitF b = splitK 1 (4 + m) (2 + arOf s) [s] b := by
  unfold splitF splitK; rw [h]; simp only
  rw [show 2 + arOf s - 1 = 1 + arOf s from by omega]
  cases pagesN (1 + arOf s) (4 + m) (b.drop (4 + m)) <;> rfl
theorem splitK_error (k p wt : Nat) (done : List (List UInt8)) (b : List UInt8) (hk : k < wt) (e : Nat) (h : pageOf (b.drop p) = .error e) : splitK k p wt done b = .error (e, p) := by
  unfold splitK; rw [show wt - k = (wt - k - 1) + 1 from by omega, pagesN, h]
theorem splitK_next (k p wt : Nat) (done : List (List UInt8)) (b : List UInt8) (hk : k < wt) (s : List UInt8) (m : Nat) (h : pageOf (b.drop p) = .ok (s, m)) : splitK k p wt done b = splitK (k + 1) (p + m) wt (done ++ [s]) b := by
  unfold splitK
  rw [show wt - k = (wt - (k + 1)) + 1 from by omega, pagesN, h]; simp only
  rw [List.drop_drop]
  cases pagesN (wt - (k + 1)) (p + m) (b.drop (p + m)) with
  | error x => rfl
  | ok l => simp
theorem splitK_end (k p wt : Nat) (done : List (List UInt8)) (b : List UInt8) (hk : wt ≤ k) : splitK k p wt done b = .ok done := by
  unfold splitK; rw [show wt - k = 0 from by omega, pagesN]; simp
theorem pageOf_in (b s : List UInt8) (m : Nat) (h : pageOf b = .ok (s, m)) : 0 < m ∧ m ≤ b.length ∧ s.length ≤ b.length := by
  unfold pageOf at h
  split at h
  · cases h
  · rename_i n k hu
    split at h
    · cases h
    · split at h
      · cases h
        refine ⟨by omega, by omega, ?_⟩
        rw [List.length_take, List.length_drop]; omega
      · cases h
theorem pageOf_err (b : List UInt8) (e : Nat) (h : pageOf b = .error e) : e = 4 ∨ e = 5 := by
  unfold pageOf at h
  split at h
  · cases h; exact Or.inl rfl
  · split at h
    · cases h; exact Or.inl rfl
    · split at h
      · cases h
      · cases h; exact Or.inr rfl
theorem fillAll_len (st : Bool) (all : List (List UInt8)) (ps : List (List UInt8)) (m : Nat) (rows o : List (List (List UInt8))) (h : fillAll st all ps rows = some o) (hm : ∀ r ∈ rows, r.length = m) : o.length = rows.length ∧ ∀ r ∈ o, r.length = m + ps.length := by
  induction ps generalizing rows m with
  | nil => rw [fillAll] at h; cases h; exact ⟨rfl, fun r hr => by simpa using hm r hr⟩
  | cons p ps ih =>
    rw [fillAll] at h
    cases hf : fill all 0 rows p with
    | none => rw [hf] at h; cases h
    | some q =>
      obtain ⟨o2, t⟩ := q
      rw [hf] at h
      simp only at h
      split at h
      · cases h
      · obtain ⟨h1, h2⟩ := fill_len all m 0 rows o2 p t hf hm
        obtain ⟨h3, h4⟩ := ih (m + 1) o2 h h2
        exact ⟨h3.trans h1, fun r hr => by rw [h4 r hr, List.length_cons]; omega⟩
theorem related_bd (st : Bool) (p0 p1 : List UInt8) (cols : List (List UInt8)) (name : List UInt8) (ar : Nat) (rows : List (List (List UInt8))) (h : related st (p0 :: p1 :: cols) = some (name, ar, rows)) : name.length ≤ 30 ∧ ar ≤ 8 ∧ rows.length ≤ 2000 ∧ ∀ r ∈ rows, r.length = cols.length := by
  unfold related at h
  simp only at h
  cases hh : headOf p0 with
  | none => rw [hh] at h; cases h
  | some q =>
    obtain ⟨nm, a, n⟩ := q
    rw [hh] at h
    obtain ⟨b1, b2, b3⟩ := headOf_bd _ _ _ _ hh
    simp only at h
    cases ho : open_ p1 with
    | none => rw [ho] at h; cases h
    | some all =>
      rw [ho] at h
      simp only at h
      cases hf : fillAll st all cols (List.replicate n []) with
      | none => rw [hf] at h; cases h
      | some o =>
        rw [hf] at h
        cases h
        obtain ⟨h1, h2⟩ := fillAll_len st all cols 0 _ _ hf (fun r hr => by rw [List.eq_of_mem_replicate hr]; rfl)
        exact ⟨isName_len _ b3, b1, by rw [h1, List.length_replicate]; exact b2, fun r hr => by rw [h2 r hr]; omega⟩
theorem arOf_le (s : List UInt8) : arOf s ≤ 8 := by
  unfold arOf
  split
  · rename_i h; exact (headOf_bd _ _ _ _ h).1
  · omega
set_option maxRecDepth 100000 in
set_option maxHeartbeats 4000000 in
theorem rdecode_any (d : ByteArray) (w : World) (hd : d.size ≤ 1073741824) :
    Calls Tryz.prog 8 #[.string d] w fun e w' => Decoded w.heap.size (decode true d.data.toList) e w' ∧ Below w.heap.size w w' := by
  obtain ⟨j0, hj, hy0, hy1, hy2⟩ := info_parts info9
  have HDL : Hid (d.data.toList.length = d.size) := by show _ = _; simp
  have HBN : Hid (Below w.heap.size w (w.alloc (.cells #[.string { data := #[] }, .int .i64 0, .slice none 0 0] 28))) := (Below.refl _ _).alloc (Nat.le_refl _) _
  by_cases hbig : 65536 < d.size
  · have HF : Hid (decode true d.data.toList = (1, 0, [], 0, [])) := decode_long _ _ (by rw [HDL.out]; exact hbig)
    go_enter Tryz.func8, Tryz.ntmps8
    go_wp2
    refine bodyPost_ret (v := .tuple #[.agg #[.string { data := #[] }, .int .i64 0, .slice none 0 0], .int .i64 1, .int .i64 0]) (by simp [results, Tryz.results8, go_sem]) rfl ⟨decoded_bad 1 0 HF.out rfl rfl, HBN.out⟩
  · have HNB : Hid (¬ 65536 < d.data.toList.length) := by rw [HDL.out]; exact hbig
    by_cases h8 : d.size < 8
    · have HF : Hid (decode true d.data.toList = (4, 0, [], 0, [])) := decode_open _ _ HNB.out (fun h => by have := h.1; rw [HDL.out] at this; omega)
      have hd4 : decide ((d.size : Int) - 4 < 4) = true := decide_eq_true (by omega)
      go_enter Tryz.func8, Tryz.ntmps8
      go_wp2_with fail
      go_quiet (fail)
      go_wp2
      refine bodyPost_ret (v := .tuple #[.agg #[.string { data := #[] }, .int .i64 0, .slice none 0 0], .int .i64 4, .int .i64 0]) (by simp [results, Tryz.results8, go_sem]) rfl ⟨decoded_bad 4 0 HF.out rfl rfl, boxed_below (below_drewN HBN.out _) (Nat.le_refl _) _ _ _⟩
    · obtain ⟨n, hn⟩ : ∃ n : Nat, (d.size : Int) - 4 = n := ⟨d.size - 4, by omega⟩
      have hn4 : 4 ≤ n := by omega
      have hnd : n + 4 = d.size := by omega
      have HN : Hid ((d.size : Int) - 4 = n) := hn
      clear hn
      have hn4i : (4 : Int) ≤ (n : Int) := by omega
      have hndi : (n : Int) ≤ (d.size : Int) := by omega
      have hd4 : decide ((n : Int) < 4) = false := decide_eq_false (by omega)
      have h4d : (4 : Int) ≤ (d.size : Int) := by omega
      have HT4 : Hid (d.extract 0 4 = str (d.data.toList.take 4)) := by
        have := cut_text d 0 4
        rw [from_zero] at this
        exact this
      by_cases hmg : d.data.toList.take 4 = [82, 69, 76, 49]
      · have hmq : ((d.extract 0 4).toList == [82, 69, 76, 49]) = true := by rw [HT4.out, toList_str, hmg]; rfl
        have HTN : Hid (d.extract 0 n = str (d.data.toList.take n)) := by
          have := cut_text d 0 n
          rw [from_zero, Nat.zero_add] at this
          exact this
        have HTE : Hid (d.extract n d.size = str (d.data.toList.drop n)) := by
          have := cut_text d n 4
          rw [hnd] at this
          have e : (from_ d n).take 4 = d.data.toList.drop n := by
            unfold from_
            exact List.take_of_length_le (by simp; omega)
          rw [e] at this
          exact this
        obtain ⟨bd, HBD⟩ : ∃ bd, Hid (bd = d.extract 0 n) := ⟨_, (rfl : d.extract 0 n = _)⟩
        have zb : bd.size = n := by rw [HBD.out, ByteArray.size_extract]; omega
        obtain ⟨ss, HSS⟩ : ∃ ss, Hid (ss = str (Crc.sum bd.data.toList)) := ⟨_, (rfl : str (Crc.sum bd.data.toList) = _)⟩
        obtain ⟨W0, HW0⟩ : ∃ W0, Hid (W0 = w.alloc (.cells #[.string { data := #[] }, .int .i64 0, .slice none 0 0] 28)) := ⟨_, rfl⟩
        have HB0 : Hid (Below w.heap.size w W0) := by rw [HW0.out]; exact HBN.out
        have HZ0 : Hid (W0.heap.size = w.heap.size + 1) := by show _ = _; rw [HW0.out]; simp
        have HX0 : Hid (RBox W0 w.heap.size) := by rw [HW0.out]; exact RBox.new _ _
        have hwW : w.heap.size < W0.heap.size := by have := HZ0.out; omega
        have HBL : Hid (bd.data.toList = d.data.toList.take (d.data.toList.length - 4)) := by
          show _ = _
          rw [HBD.out, HTN.out, data_str, HDL.out, show d.size - 4 = n from by omega]
        have HSM : Hid (∀ wx : World, (∃ n, wx = W0.drewN n) → Calls Tryz.prog 20 #[.string bd] wx fun e w' => e = .returned (.string ss) ∧ Hid (Below W0.heap.size W0 w')) := by
          rintro wx ⟨n, rfl⟩
          refine (rsum_any _ _ (by omega)).mono ?_
          rintro e w2 ⟨rfl, hb2⟩
          exact ⟨by rw [HSS.out], (below_drewN (Below.refl _ _) n).trans hb2⟩
        by_cases hsl : sealed d.data.toList
        · have hse : (ss.toList == (d.extract n d.size).toList) = true := by
            have h3 := hsl.2.2
            rw [HDL.out, show d.size - 4 = n from by omega] at h3
            rw [HTE.out, HSS.out, HBL.out, HDL.out, show d.size - 4 = n from by omega, toList_str, toList_str, h3]; simp
          have HSL : Hid (sealed d.data.toList) := hsl
          clear hmg hsl
          go_enter Tryz.func8, Tryz.ntmps8
          go_wp2_with fail
          rw [HN.out, ← HW0.out]
          go_region_held3 (fun w' => True) (trivial) (first | (go_at_call 20; rw [← HBD.out]; refine (HSM.out _ ⟨_, rfl⟩).mono ?_; rintro e w2 ⟨rfl, HB2⟩))
          all_goals go_wp2
          rw [← HBD.out]
          have HX2 : Hid (RBox w2 w.heap.size) := HX0.out.kept HB2.out hwW
          have HBW2 : Hid (Below w.heap.size w w2) := HB0.out.trans (HB2.out.mono HB0.out.size)
          have hw2 : w.heap.size < w2.heap.size := by have := HB2.out.size; omega
          go_loopw [7, 8, 9, 10] (fun pv av wv iv wr => ∃ (k p wt : Nat) (done : List (List UInt8)), iv = .int .i64 k ∧ av = .int .i64 p ∧ wv = .int .i64 wt ∧ p ≤ n ∧ wt ≤ 10 ∧ Hid (done.length = k) ∧ Hid (wr.ownsRow w2.heap.size 9 1 pv done.length (ts done)) ∧ Hid (Below w2.heap.size w2 wr) ∧ Hid (∀ q ∈ done, q.length ≤ 65536) ∧ ((k = 0 ∧ p = 4 ∧ wt = 2) ∨ (0 < k ∧ k ≤ wt ∧ Hid (wt = 2 + arOf (done.headD [])) ∧ Hid (splitF bd.data.toList = splitK k p wt done bd.data.toList)))) (fun _ _ wv iv _ => 12 - (intOf iv).toNat)
          case atStart => exact ⟨0, 4, 2, [], rfl, rfl, rfl, by omega, by omega, rfl, World.ownsRow_nil _ _ _ _, Below.refl _ _, fun q hq => (by simp at hq), Or.inl ⟨rfl, rfl, rfl⟩⟩
          case round =>
            obtain ⟨k, p, wt, done, rfl, rfl, rfl, hpn, hwt, HDN, HO, HB, HQL, hst⟩ := hrel
            obtain ⟨pa, pc, hpv⟩ := ownShape HO.out
            subst hpv
            have hdl : done.length ≤ 12 := by have := HDN.out; rcases hst with ⟨h1, -⟩ | ⟨-, h1, -⟩ <;> omega
            have hrw : w2.heap.size ≤ wr.heap.size := HB.out.size
            by_cases hk : k < wt
            · cases hpg : pageOf (from_ bd p) with
              | error er =>
                have her := pageOf_err _ _ hpg
                have HF : Hid (decode true d.data.toList = (er, p, [], 0, [])) := by
                  refine decode_split true _ HNB.out HSL.out er p ?_
                  rw [← HBL.out]
                  rcases hst with ⟨-, rfl, -⟩ | ⟨-, -, -, HSK⟩
                  · exact splitF_none _ _ hpg
                  · rw [HSK.out]; exact splitK_error k p wt done _ hk er hpg
                have HPG : Hid (pgd p (pageOf (from_ bd p)) = .tuple #[.string (str []), .int .i64 0, .int .i64 (er : Nat)]) := by show _ = _; rw [hpg]; rfl
                have hne : ((er : Int) != 0) = true := by rcases her with rfl | rfl <;> rfl
                clear hpg hst her
                go_wp2_with fail
                refine (rpaged_any bd p _ (by omega) (by omega)).mono ?_
                rintro e w3 ⟨rfl, hb3⟩
                rw [HPG.out]
                obtain ⟨k0, k1, k2, f0, f1, f2⟩ := (HX2.out.kept HB.out hw2).kept hb3 (by omega)
                have HB3 : Hid (Below w.heap.size w w3) := (HBW2.out.trans (HB.out.mono HBW2.out.size)).trans (hb3.mono (by omega))
                clear hb3
                go_wp2
                refine bodyPost_ret (v := .tuple #[.agg #[.string { data := #[] }, .int .i64 0, .slice none 0 0], .int .i64 (er : Nat), .int .i64 (p : Nat)]) (by simp [results, Tryz.results8, go_sem, k0, k1, k2]) rfl ⟨decoded_bad er p HF.out rfl rfl, ?_⟩
                exact boxed_below HB3.out (Nat.le_refl _) _ _ _
              | ok q =>
                obtain ⟨s, m⟩ := q
                obtain ⟨hm0, hm1, hm2⟩ := pageOf_in _ _ _ hpg
                have hfl := from_len bd p
                have hpm : p + m ≤ n := by omega
                have hsl : s.length ≤ 65536 := by omega
                have HPG : Hid (pgd p (pageOf (from_ bd p)) = .tuple #[.string (str s), .int .i64 ((p + m : Nat) : Int), .int .i64 0]) := by show _ = _; rw [hpg]; rfl
                obtain ⟨st, HST⟩ : ∃ st, Hid (st = str s) := ⟨_, (rfl : str s = _)⟩
                have zst : st.size ≤ 65536 := by rw [HST.out, str_size]; exact hsl
                have HQ2 : Hid (∀ q ∈ done ++ [s], q.length ≤ 65536) := by
                  intro q hq
                  rcases List.mem_append.1 hq with hq | hq
                  · exact HQL.out q hq
                  · simp at hq; subst hq; exact hsl
                have HDN2 : Hid ((done ++ [s]).length = k + 1) := by show _ = _; rw [List.length_append, HDN.out]; rfl
                rw [← HST.out] at HPG
                clear hfl hm1 hm2
                rcases hst with ⟨rfl, rfl, rfl⟩ | ⟨hk0, hkw, HWT, HSK⟩
                · have HD0 : Hid (done = []) := List.eq_nil_of_length_eq_zero HDN.out
                  have HSK2 : Hid (splitF bd.data.toList = splitK 1 (4 + m) (2 + arOf s) (done ++ [s]) bd.data.toList) := by
                    show _ = _; rw [HD0.out]; exact splitF_first _ s m hpg
                  have HHD : Hid ((done ++ [s]).headD [] = s) := by show _ = _; rw [HD0.out]; rfl
                  clear hpg
                  go_wp2_with fail
                  refine (rpaged_any bd 4 _ (by omega) (by omega)).mono ?_
                  rintro e w3 ⟨rfl, hb3⟩
                  rw [HPG.out]
                  have HB3 : Hid (Below w2.heap.size w2 w3) := HB.out.trans (hb3.mono HB.out.size)
                  have HO3 : Hid (w3.ownsRow w2.heap.size 9 1 (.slice pa done.length pc) done.length (ts done)) := own_kept HO.out hb3
                  clear hb3
                  go_wp2_with fail
                  refine (rheaded_any st _ (by omega)).mono ?_
                  rintro e w3' ⟨hh, rfl⟩
                  rw [HST.out, data_str] at hh
                  cases hhd : headOf s with
                  | none =>
                    rw [hhd] at hh
                    obtain ⟨hx, hy, hz, rfl⟩ := hh
                    have HAR : Hid (arOf s = 0) := arOf_none s hhd
                    clear hhd
                    go_wp2_with (at_builtin; refine wpList_append_own _ rfl _ _ 45 rfl w2.heap.size 9 j0 (.string { data := #[] }) 1 16 Tryz.underlying45 hj hy0 hy1 hy2 rfl (by decide) _ _ _ rfl (HO3.out.alloc _) ⟨w3.heap.size, 0, none⟩ 1 1 [.string st] rfl rfl ?c1 ?c2 ?c3 ?c4 ?c5 ?_)
                    case c1 =>
                      intro j' u hj'
                      match j', hj' with
                      | 0, hj' => simp at hj'; subst hj'; exact World.cell?_alloc_at _ _ _ _ rfl
                    case c2 => intro u hu; simp at hu; subst hu; rfl
                    case c3 => unfold maxLen; omega
                    case c4 => omega
                    case c5 => have := HB3.out.size; simp; omega
                    intro v4 w4 hown4 hg4 _
                    have HB4 : Hid (Below w2.heap.size w2 w4) := grown_own HB3.out HO3.out hg4
                    have HO4 : Hid (w4.ownsRow w2.heap.size 9 1 v4 (done ++ [s]).length (ts (done ++ [s]))) := by
                      rw [HST.out, ts_snoc] at hown4
                      rw [List.length_append]; exact hown4
                    clear hown4 hg4
                    go_wp2
                    go_roundw
                    case rel => exact ⟨1, 4 + m, 2, done ++ [s], rfl, by go_num, rfl, hpm, by omega, HDN2, HO4, HB4, HQ2, Or.inr ⟨by omega, by omega, by show _ = _; rw [HHD.out, HAR.out], by have h5 := HSK2.out; rw [HAR.out] at h5; exact h5⟩⟩
                    case measure => simp [intOf]
                  | some hq =>
                    obtain ⟨nm, ar, nr⟩ := hq
                    rw [hhd] at hh
                    have he : e = .returned (.tuple #[.string (str nm), .int .i64 (ar : Nat), .int .i64 (nr : Nat), .bool true]) := hh
                    subst he
                    have HAR : Hid (arOf s = ar) := arOf_some s _ _ _ hhd
                    have har8 := (headOf_bd _ _ _ _ hhd).1
                    clear hhd hh
                    go_wp2_with (at_builtin; refine wpList_append_own _ rfl _ _ 45 rfl w2.heap.size 9 j0 (.string { data := #[] }) 1 16 Tryz.underlying45 hj hy0 hy1 hy2 rfl (by decide) _ _ _ rfl (HO3.out.alloc _) ⟨w3.heap.size, 0, none⟩ 1 1 [.string st] rfl rfl ?c1 ?c2 ?c3 ?c4 ?c5 ?_)
                    case c1 =>
                      intro j' u hj'
                      match j', hj' with
                      | 0, hj' => simp at hj'; subst hj'; exact World.cell?_alloc_at _ _ _ _ rfl
                    case c2 => intro u hu; simp at hu; subst hu; rfl
                    case c3 => unfold maxLen; omega
                    case c4 => omega
                    case c5 => have := HB3.out.size; simp; omega
                    intro v4 w4 hown4 hg4 _
                    have HB4 : Hid (Below w2.heap.size w2 w4) := grown_own HB3.out HO3.out hg4
                    have HO4 : Hid (w4.ownsRow w2.heap.size 9 1 v4 (done ++ [s]).length (ts (done ++ [s]))) := by
                      rw [HST.out, ts_snoc] at hown4
                      rw [List.length_append]; exact hown4
                    clear hown4 hg4
                    go_wp2
                    go_roundw
                    case rel => exact ⟨1, 4 + m, 2 + ar, done ++ [s], rfl, by go_num, by go_num, hpm, by omega, HDN2, HO4, HB4, HQ2, Or.inr ⟨by omega, by omega, by show _ = _; rw [HHD.out, HAR.out], by have h5 := HSK2.out; rw [HAR.out] at h5; exact h5⟩⟩
                    case measure => simp [intOf]
                · have HSK2 : Hid (splitF bd.data.toList = splitK (k + 1) (p + m) wt (done ++ [s]) bd.data.toList) := by
                    show _ = _; rw [HSK.out]; exact splitK_next k p wt done _ hk s m hpg
                  have HHD : Hid ((done ++ [s]).headD [] = done.headD []) := by
                    show _ = _
                    cases hdn : done with
                    | nil => have := HDN.out; rw [hdn] at this; simp at this; omega
                    | cons x xs => rfl
                  have hk00 : ((k : Int) == 0) = false := by rw [beq_eq_false_iff_ne]; omega
                  clear hpg
                  go_wp2_with fail
                  refine (rpaged_any bd p _ (by omega) (by omega)).mono ?_
                  rintro e w3 ⟨rfl, hb3⟩
                  rw [HPG.out]
                  have HB3 : Hid (Below w2.heap.size w2 w3) := HB.out.trans (hb3.mono HB.out.size)
                  have HO3 : Hid (w3.ownsRow w2.heap.size 9 1 (.slice pa done.length pc) done.length (ts done)) := own_kept HO.out hb3
                  clear hb3
                  go_wp2_with (at_builtin; refine wpList_append_own _ rfl _ _ 45 rfl w2.heap.size 9 j0 (.string { data := #[] }) 1 16 Tryz.underlying45 hj hy0 hy1 hy2 rfl (by decide) _ _ _ rfl (HO3.out.alloc _) ⟨w3.heap.size, 0, none⟩ 1 1 [.string st] rfl rfl ?c1 ?c2 ?c3 ?c4 ?c5 ?_)
                  case c1 =>
                    intro j' u hj'
                    match j', hj' with
                    | 0, hj' => simp at hj'; subst hj'; exact World.cell?_alloc_at _ _ _ _ rfl
                  case c2 => intro u hu; simp at hu; subst hu; rfl
                  case c3 => unfold maxLen; omega
                  case c4 => omega
                  case c5 => have := HB3.out.size; simp; omega
                  intro v4 w4 hown4 hg4 _
                  have HB4 : Hid (Below w2.heap.size w2 w4) := grown_own HB3.out HO3.out hg4
                  have HO4 : Hid (w4.ownsRow w2.heap.size 9 1 v4 (done ++ [s]).length (ts (done ++ [s]))) := by
                    rw [HST.out, ts_snoc] at hown4
                    rw [List.length_append]; exact hown4
                  clear hown4 hg4
                  go_wp2
                  go_roundw
                  case rel => exact ⟨k + 1, p + m, wt, done ++ [s], by go_num, by go_num, rfl, hpm, by omega, HDN2, HO4, HB4, HQ2, Or.inr ⟨by omega, by omega, by show _ = _; rw [HHD.out]; exact HWT.out, HSK2⟩⟩
                  case measure => simp [intOf]; omega
            · obtain ⟨hk0, hkw, HWT, HSK⟩ : 0 < k ∧ k ≤ wt ∧ Hid (wt = 2 + arOf (done.headD [])) ∧ Hid (splitF bd.data.toList = splitK k p wt done bd.data.toList) := by
                rcases hst with ⟨h1, -, h2⟩ | h1
                · omega
                · exact h1
              have HSP : Hid (splitF (d.data.toList.take (d.data.toList.length - 4)) = .ok done) := by
                show _ = _; rw [← HBL.out, HSK.out]; exact splitK_end k p wt done _ (by omega)
              clear hst
              obtain ⟨p0, p1, cols, hdq⟩ : ∃ p0 p1 cols, done = p0 :: p1 :: cols := by
                have h1 := HDN.out
                have h2 := HWT.out
                match done, h1 with
                | [], h1 => simp at h1; omega
                | [x], h1 => simp at h1; omega
                | x :: y :: zs, _ => exact ⟨x, y, zs, rfl⟩
              have HCL : Hid (cols.length = arOf p0) := by
                have h1 := HDN.out
                have h2 := HWT.out
                rw [hdq] at h1 h2
                simp at h1 h2
                show _ = _
                omega
              have hcl8 : cols.length ≤ 8 := by rw [HCL.out]; exact arOf_le _
              subst hdq
              have HSTR : Hid (Strs wr (.slice pa (p0 :: p1 :: cols).length pc) (p0 :: p1 :: cols)) := own_strs HO.out
              go_wp2_with fail
              refine (rrelated_any _ p0 p1 cols _ HSTR.out HCL.out (fun q hq => by have := HQL.out q hq; omega)).mono ?_
              rintro e w3 ⟨hr, hb3⟩
              have HB3 : Hid (Below w.heap.size w w3) := (HBW2.out.trans (HB.out.mono HBW2.out.size)).trans (hb3.mono (by omega))
              have HX3 : Hid (RBox w3 w.heap.size) := (HX2.out.kept HB.out hw2).kept hb3 (by omega)
              have hw3 : w.heap.size < w3.heap.size := by have := hb3.size; omega
              clear hb3
              cases hrl : related true (p0 :: p1 :: cols) with
              | none =>
                rw [hrl] at hr
                have he : e = .returned (.tuple #[.agg #[.string (str []), .int .i64 0, .slice none 0 0], .bool false]) := hr
                subst he
                have HF : Hid (decode true d.data.toList = (4, 0, [], 0, [])) := decode_none true _ HNB.out HSL.out _ HSP.out hrl
                clear hr hrl
                have HEN : Hid (encd (encode (str []).data.toList 0 []) = .tuple #[.string (str []), .int .i64 8, .int .i64 0]) := (rfl : _ = _)
                have hba : Below w3.heap.size w3 (w3.alloc (.cells #[.string (str []), .int .i64 0, .slice none 0 0] 28)) := (Below.refl _ _).alloc (Nat.le_refl _) _
                have HBA : Hid (Below w3.heap.size w3 (w3.alloc (.cells #[.string (str []), .int .i64 0, .slice none 0 0] 28))) := hba
                clear hba
                go_wp2_with fail
                refine (rencode_any (str []) 0 _ [] [] _ (Deep.nil 0 _).rows (by decide) (by simp) (by simp)).mono ?_
                rintro e w4 ⟨rfl, hb4⟩
                rw [HEN.out]
                have hB4 : Below w3.heap.size w3 w4 := HBA.out.trans (hb4.mono HBA.out.size)
                obtain ⟨k0, k1, k2, f0, f1, f2⟩ := HX3.out.kept hB4 hw3
                have HB4 : Hid (Below w.heap.size w w4) := HB3.out.trans (hB4.mono HB3.out.size)
                clear hb4 hB4
                go_wp2
                refine bodyPost_ret (v := .tuple #[.agg #[.string { data := #[] }, .int .i64 0, .slice none 0 0], .int .i64 4, .int .i64 0]) (by simp [results, Tryz.results8, go_sem, k0, k1, k2]) rfl ⟨decoded_bad 4 0 HF.out rfl rfl, boxed_below HB4.out (Nat.le_refl _) _ _ _⟩
              | some q =>
                obtain ⟨name, ar, rows⟩ := q
                rw [hrl] at hr
                obtain ⟨v3, us3, rfl, hd3⟩ := hr
                obtain ⟨a3, c3, rfl⟩ := ownShape hd3.1
                obtain ⟨bn, ba, br, bl⟩ := related_bd _ _ _ _ _ _ _ hrl
                have HD3 : Hid (Deep wr.heap.size w3 (.slice a3 us3.length c3) us3 rows) := hd3
                have HRL : Hid (related true (p0 :: p1 :: cols) = some (name, ar, rows)) := hrl
                have HRB : Hid (∀ r ∈ rows, r.length ≤ 1099511627776) := fun r hr => by rw [bl r hr]; omega
                have zn : (str name).size ≤ 30 := by rw [str_size]; exact bn
                clear hd3 hrl bl bn
                obtain ⟨t, er, ei, HEQ⟩ : ∃ t er ei, Hid (encode name ar rows = (t, er, ei)) := ⟨_, _, _, rfl⟩
                have HEN : Hid (encd (encode (str name).data.toList ar rows) = .tuple #[.string (str t), .int .i64 (er : Nat), .int .i64 (ei : Nat)]) := by show _ = _; rw [data_str, HEQ.out]; rfl
                have HBA : Hid (Below w3.heap.size w3 (w3.alloc (.cells #[.string (str name), .int .i64 (ar : Nat), .slice a3 us3.length c3] 28))) := (Below.refl _ _).alloc (Nat.le_refl _) _
                have HQA : Hid ((w3.alloc (.cells #[.string (str name), .int .i64 (ar : Nat), .slice a3 us3.length c3] 28)).cell? ⟨w3.heap.size, 0, none⟩ = some (.string (str name)) ∧ (w3.alloc (.cells #[.string (str name), .int .i64 (ar : Nat), .slice a3 us3.length c3] 28)).cell? ⟨w3.heap.size, 1, none⟩ = some (.int .i64 (ar : Nat)) ∧ (w3.alloc (.cells #[.string (str name), .int .i64 (ar : Nat), .slice a3 us3.length c3] 28)).cell? ⟨w3.heap.size, 2, none⟩ = some (.slice a3 us3.length c3)) := ⟨by simp, by simp, by simp⟩
                have HZA : Hid (w3.heap.size < (w3.alloc (.cells #[.string (str name), .int .i64 (ar : Nat), .slice a3 us3.length c3] 28)).heap.size) := by show _ < _; simp
                go_wp2_with fail
                refine (rencode_any (str name) ar _ us3 rows _ (HD3.out.rows.kept HBA.out) (by omega) (by omega) HRB.out).mono ?_
                rintro e w4 ⟨rfl, hb4⟩
                rw [HEN.out]
                have hB4 : Below w3.heap.size w3 w4 := HBA.out.trans (hb4.mono HBA.out.size)
                obtain ⟨k0, k1, k2, f0, f1, f2⟩ := HX3.out.kept hB4 hw3
                have HB4 : Hid (Below w.heap.size w w4) := HB3.out.trans (hB4.mono HB3.out.size)
                have HD4 : Hid (Deep wr.heap.size w4 (.slice a3 us3.length c3) us3 rows) := HD3.out.kept hB4
                have q0 := (hb4.cell (p := ⟨w3.heap.size, 0, none⟩) HZA.out).trans HQA.out.1
                have q1 := (hb4.cell (p := ⟨w3.heap.size, 1, none⟩) HZA.out).trans HQA.out.2.1
                have q2 := (hb4.cell (p := ⟨w3.heap.size, 2, none⟩) HZA.out).trans HQA.out.2.2
                have hiff := encode_iff name ar rows d.data.toList
                rw [HEQ.out] at hiff
                simp only at hiff
                clear hb4 hB4
                by_cases her : er = 0
                · by_cases ht : t = d.data.toList
                  · have HF : Hid (decode true d.data.toList = (0, 0, name, ar, rows)) := decode_fine true _ HNB.out HSL.out _ HSP.out name ar rows HRL.out (by rw [HEQ.out]; exact hiff.2 ⟨her, ht⟩)
                    have hse2 : ((str t).toList == d.toList) = true := by rw [toList_str, toList_of, ht]; simp
                    have hr0 : ((er : Int) != 0) = false := by simp [her]
                    clear hiff her ht
                    go_wp2
                    refine bodyPost_ret (v := .tuple #[.agg #[.string (str name), .int .i64 (ar : Nat), .slice a3 us3.length c3], .int .i64 0, .int .i64 0]) (by simp [results, Tryz.results8, go_sem, k0, k1, k2]) rfl ⟨decoded_ok HF.out ((boxed_deep HD4.out (by omega) _ _ _).lower (by omega)), boxed_below HB4.out (Nat.le_refl _) _ _ _⟩
                  · have HF : Hid (decode true d.data.toList = (4, 0, [], 0, [])) := decode_other true _ HNB.out HSL.out _ HSP.out name ar rows HRL.out (by rw [HEQ.out]; exact fun h => ht (hiff.1 h).2)
                    have hse2 : ((str t).toList == d.toList) = false := by rw [toList_str, toList_of]; simp [ht]
                    have hr0 : ((er : Int) != 0) = false := by simp [her]
                    clear hiff her ht
                    go_wp2
                    refine bodyPost_ret (v := .tuple #[.agg #[.string { data := #[] }, .int .i64 0, .slice none 0 0], .int .i64 4, .int .i64 0]) (by simp [results, Tryz.results8, go_sem, k0, k1, k2]) rfl ⟨decoded_bad 4 0 HF.out rfl rfl, boxed_below HB4.out (Nat.le_refl _) _ _ _⟩
                · have HF : Hid (decode true d.data.toList = (4, 0, [], 0, [])) := decode_other true _ HNB.out HSL.out _ HSP.out name ar rows HRL.out (by rw [HEQ.out]; exact fun h => her (hiff.1 h).1)
                  have hr0 : ((er : Int) != 0) = true := by simp [her]
                  clear hiff her
                  go_wp2
                  refine bodyPost_ret (v := .tuple #[.agg #[.string { data := #[] }, .int .i64 0, .slice none 0 0], .int .i64 4, .int .i64 0]) (by simp [results, Tryz.results8, go_sem, k0, k1, k2]) rfl ⟨decoded_bad 4 0 HF.out rfl rfl, boxed_below HB4.out (Nat.le_refl _) _ _ _⟩
        · have hse : (ss.toList == (d.extract n d.size).toList) = false := by
            rw [HTE.out, HSS.out, HBL.out, HDL.out, show d.size - 4 = n from by omega, toList_str, toList_str]
            rw [beq_eq_false_iff_ne]
            intro h3
            exact hsl ⟨by rw [HDL.out]; omega, hmg, by rw [HDL.out, show d.size - 4 = n from by omega]; exact h3⟩
          have HF : Hid (decode true d.data.toList = (4, 0, [], 0, [])) := decode_open _ _ HNB.out hsl
          clear hmg hsl
          go_enter Tryz.func8, Tryz.ntmps8
          go_wp2_with fail
          rw [HN.out, ← HW0.out]
          go_region_held3 (fun w' => True) (trivial) (first | (go_at_call 20; rw [← HBD.out]; refine (HSM.out _ ⟨_, rfl⟩).mono ?_; rintro e w2 ⟨rfl, HB2⟩))
          have HB4 : Hid (Below w.heap.size w w2) := HB0.out.trans (HB2.out.mono HB0.out.size)
          obtain ⟨k0, k1, k2, f0, f1, f2⟩ := HX0.out.kept HB2.out hwW
          all_goals go_wp2
          refine bodyPost_ret (v := .tuple #[.agg #[.string { data := #[] }, .int .i64 0, .slice none 0 0], .int .i64 4, .int .i64 0]) (by simp [results, Tryz.results8, go_sem, k0, k1, k2]) rfl ⟨decoded_bad 4 0 HF.out rfl rfl, boxed_below HB4.out (Nat.le_refl _) _ _ _⟩
      · have HF : Hid (decode true d.data.toList = (4, 0, [], 0, [])) := decode_open _ _ HNB.out (fun h => hmg h.2.1)
        have hmq : ((d.extract 0 4).toList == [82, 69, 76, 49]) = false := by rw [HT4.out, toList_str]; simpa using hmg
        clear hmg
        go_enter Tryz.func8, Tryz.ntmps8
        go_wp2_with fail
        rw [HN.out]
        go_quiet (fail)
        go_wp2
        refine bodyPost_ret (v := .tuple #[.agg #[.string { data := #[] }, .int .i64 0, .slice none 0 0], .int .i64 4, .int .i64 0]) (by simp [results, Tryz.results8, go_sem]) rfl ⟨decoded_bad 4 0 HF.out rfl rfl, boxed_below (below_drewN HBN.out _) (Nat.le_refl _) _ _ _⟩
end Go.Proofs.YtnnldpccagajbaaGreatDoor
