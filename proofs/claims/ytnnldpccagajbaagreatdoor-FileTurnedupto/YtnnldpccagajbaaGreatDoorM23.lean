import Derived.Test.YtnnldpccagajbaaGreatDoorM22
import Derived.Test.YtnnldpccagajbaaGreatDoorM16
import Derived.Test.YtnnldpccagajbaaGreatDoorM06
/-
  The program's words.Build, walked.
-/
namespace Go.Proofs.YtnnldpccagajbaaGreatDoor
open Go.ChangeShapes Go.WideShapes Go.ChangeAt Go.RowKit
set_option linter.unusedVariables false
theorem built_tuple {l : List (List UInt8)} {t : List UInt8} {x i : Nat} (h : build l = (t, x, i)) : built (build l) = .tuple #[.string (str t), .int .i64 (x : Nat), .int .i64 (i : Nat)] := by rw [h]; rfl
theorem Strs.drewN' {w : World} {v : Value} {l : List (List UInt8)} (h : Strs w v l) (n : Nat) : Strs (w.drewN n) v l := h.drewN n
set_option maxRecDepth 100000 in
set_option maxHeartbeats 2000000 in
theorem build_said : BuildSaid := by
  intro v l w h hl
  have HS : Hid (Strs w v l) := h
  obtain ⟨a, cap, rfl, h⟩ := h
  rcases h with ⟨rfl, _⟩ | ⟨b, off, rfl, hc⟩
  · go_enter Tryz.func50, Tryz.ntmps50
    go_wp2
    refine wp_loop_rounds 1 ?_
    rw [rounds_succ]
    go_wp2_with fail
    refine (write_any _ [] _ HS.out (by simp) (by simp)).mono ?_
    rintro e w1 ⟨rfl, hb1⟩
    go_wp2
    go_ret3
    exact ⟨by rw [built_tuple (show build [] = (vb 0 ++ enc [] [], 0, 0) from build_good [] rfl)]; rfl, hb1⟩
  · have HC : Hid (∀ (i : Nat) (x : List UInt8), l[i]? = some x → w.cell? ⟨b, off + i, none⟩ = some (.string (str x))) := hc
    clear hc
    go_enter Tryz.func50, Tryz.ntmps50
    go_wp2
    go_loopw [9] (fun i wr => ∃ k n : Nat, k ≤ l.length ∧ i = .int .i64 k ∧ wr = w.drewN n ∧ Hid (∃ out, build l = bld k (prev l k) out (l.drop k))) (fun i _ => l.length - (intOf i).toNat)
    case atStart => exact ⟨0, 0, by omega, rfl, rfl, _, rfl⟩
    case round =>
      obtain ⟨k, n, hk, rfl, rfl, HU⟩ := hrel
      by_cases hlt : k < l.length
      · have c1 := HC.out k l[k] (get_at hlt)
        obtain ⟨x, HX⟩ : ∃ x, Hid (x = l[k]) := ⟨l[k], rfl⟩
        rw [← HX.out] at c1
        have HU2 : Hid (∃ out, build l = bld k (prev l k) out (x :: l.drop (k + 1))) := by
          obtain ⟨out, ho⟩ := HU.out
          exact ⟨out, by rw [ho, drop_row l k hlt, HX.out]⟩
        obtain ⟨sx, HSX⟩ : ∃ sx, Hid (sx = str x) := ⟨str x, rfl⟩
        have hsz : sx.size = x.length := by rw [HSX.out, str_size]
        rw [← HSX.out] at c1
        by_cases h200 : 200 < x.length
        · have h200' : 200 < sx.size := by omega
          have HE : Hid (build l = ([], 1, k)) := by
            obtain ⟨out, ho⟩ := HU2.out
            show _ = _; rw [ho, bld_long _ _ _ _ _ h200]
          clear hsz
          go_wp2
          go_ret3
          exact ⟨by rw [HE.out]; rfl, below_drewN (Below.refl _ _) _⟩
        · have h200' : sx.size ≤ 200 := by omega
          clear hsz
          by_cases hk0 : k = 0
          · have hkz : (k : Int) ≤ 0 := by omega
            have HU3 : Hid (∃ out, build l = bld (k + 1) (prev l (k + 1)) out (l.drop (k + 1))) := by
              obtain ⟨out, ho⟩ := HU2.out
              exact ⟨_, by rw [ho, bld_next _ _ _ _ _ (by omega) (by rw [hk0]; rfl), prev_succ l k hlt, HX.out]⟩
            clear hk0
            go_wp2
            go_roundw
            case rel => exact ⟨k + 1, _, by omega, by go_num, rfl, HU3⟩
            case measure => simp [intOf]; omega
          · have hkp : 0 < k := by omega
            have hkp' : (0 : Int) < (k : Int) := by omega
            have c0 : w.cell? ⟨b, off + (k - 1), none⟩ = some (.string (str l[k - 1])) := HC.out (k - 1) l[k - 1] (get_at (by omega))
            obtain ⟨q, HQ⟩ : ∃ q, Hid (prev l k = some q ∧ str l[k - 1] = str q) := ⟨l[k - 1], by simp [prev, hk0, get_at (show k - 1 < l.length by omega)], rfl⟩
            rw [HQ.out.2] at c0
            obtain ⟨sp, HSP⟩ : ∃ sp, Hid (sp = str q) := ⟨str q, rfl⟩
            rw [← HSP.out] at c0
            by_cases hf : behind q x = true
            · have hle : (Op.bytesLess sx.toList sp.toList || sx.toList == sp.toList) = false := by
                rw [HSX.out, HSP.out, toList_str, toList_str, leq_not, hf]; rfl
              have HU3 : Hid (∃ out, build l = bld (k + 1) (prev l (k + 1)) out (l.drop (k + 1))) := by
                obtain ⟨out, ho⟩ := HU2.out
                exact ⟨_, by rw [ho, bld_next _ _ _ _ _ (by omega) (by rw [HQ.out.1]; exact hf), prev_succ l k hlt, HX.out]⟩
              go_wp2
              go_roundw
              case rel => exact ⟨k + 1, _, by omega, by go_num, rfl, HU3⟩
              case measure => simp [intOf]; omega
            · have hf' : behind q x = false := by simpa using hf
              have hle : (Op.bytesLess sx.toList sp.toList || sx.toList == sp.toList) = true := by
                rw [HSX.out, HSP.out, toList_str, toList_str, leq_not, hf']; rfl
              have HE : Hid (build l = ([], 6, k)) := by
                obtain ⟨out, ho⟩ := HU2.out
                show _ = _; rw [ho, bld_order _ _ _ _ _ (by omega) (by rw [HQ.out.1]; exact hf')]
              go_wp2
              go_ret3
              refine ⟨by rw [HE.out]; rfl, ?_⟩
              exact below_drewN (Below.refl _ _) _
      · have HG : Hid (build l = (vb l.length ++ enc [] l, 0, 0) ∧ ∀ t ∈ l, t.length ≤ 200) := by
          obtain ⟨out, ho⟩ := HU.out
          rw [List.drop_of_length_le (by omega)] at ho
          have hok : good none l = true := (build_ok l).1 (by rw [ho]; rfl)
          exact ⟨build_good l hok, good_len l none hok⟩
        go_wp2_with fail
        refine (write_any _ l _ (HS.out.drewN n) hl HG.out.2).mono ?_
        rintro e w1 ⟨rfl, hb1⟩
        go_wp2
        go_ret3
        exact ⟨by rw [built_tuple HG.out.1]; rfl, (below_drewN (Below.refl _ _) _).trans hb1⟩
end Go.Proofs.YtnnldpccagajbaaGreatDoor

/-
  Chapter 2's laws, out of contracts for the program's calls.
-/
namespace Go.Proofs.YtnnldpccagajbaaGreatDoor
open Go.ChangeShapes Go.WideShapes Go.ChangeAt Go.RowKit
set_option linter.unusedVariables false
/-- what the program's Open leaves -/
def OpenedP (base : Nat) (r : Option (List (List UInt8))) (e : Ending) (w' : World) : Prop :=
  match r with
  | none => ∃ v, e = .returned (.tuple #[v, .int .i64 4]) ∧ Strs w' v []
  | some l => ∃ v, e = .returned (.tuple #[v, .int .i64 0]) ∧ w'.ownsRow base 9 1 v l.length (ts l)
/-- the program's calls answer the document's -/
def OpenSaid : Prop := ∀ (d : ByteArray) (w : World), d.size ≤ 1073741824 → Calls Tryz.prog 41 #[.string d] w fun e w' => OpenedP w.heap.size (open_ d.data.toList) e w' ∧ Below w.heap.size w w'
theorem drawn_below {w w' : World} (h : ∃ n, w' = w.drewN n) (B : Nat) : Below B w w' := by obtain ⟨n, rfl⟩ := h; exact below_drewN (Below.refl _ _) n
set_option maxRecDepth 100000 in
set_option maxHeartbeats 400000 in
theorem num_at (n : Int) (w : World) : Calls Tryz.prog 10 #[.int .i64 n] w fun e w' => e = .returned (.int .i64 n) ∧ w = w' := by
  go_enter Tryz.func10, Tryz.ntmps10
  go_wp2
  go_ret
  exact ⟨rfl, rfl⟩
theorem own_lie {w : World} {base : Nat} {v : Value} {l : List (List UInt8)} (h : w.ownsRow base 9 1 v l.length (ts l)) :
    (v = .slice none 0 0 ∧ l = []) ∨ ∃ g cap, v = .slice (some ⟨g, 0, none⟩) l.length cap ∧ base ≤ g ∧ g < w.heap.size ∧ (∀ i, i < l.length → ∃ x, w.cell? ⟨g, i, none⟩ = some (.string x)) ∧ ∀ i, w.frozen? ⟨g, i, none⟩ = false := by
  rcases h.2 with ⟨rfl, h0⟩ | ⟨g, cap, cur, rfl, hb, hg, hn, hc, hs, ht⟩
  · exact Or.inl ⟨rfl, List.eq_nil_of_length_eq_zero h0⟩
  · refine Or.inr ⟨g, cap, rfl, hb, ?_, fun i hi => ⟨str l[i], ?_⟩, fun i => ?_⟩
    · exact (h.lt g rfl).2
    · have := h.cells (g := g) rfl i _ (ts_at (get_at hi))
      rw [show (⟨g, 0, none⟩ : Addr).add i = ⟨g, i, none⟩ from by unfold Addr.add; split <;> simp_all] at this
      exact this
    · unfold World.frozen?
      simp only [hg]
      simp
end Go.Proofs.YtnnldpccagajbaaGreatDoor

/-
  WordsBack, out of contracts for the program's calls.
-/
namespace Go.Proofs.YtnnldpccagajbaaGreatDoor
open Go.ChangeShapes Go.WideShapes Go.ChangeAt Go.RowKit
set_option linter.unusedVariables false
end Go.Proofs.YtnnldpccagajbaaGreatDoor

/-
  The program's words.Find, walked.
-/
namespace Go.Proofs.YtnnldpccagajbaaGreatDoor
open Go.ChangeShapes Go.WideShapes Go.ChangeAt Go.RowKit
set_option linter.unusedVariables false
end Go.Proofs.YtnnldpccagajbaaGreatDoor

/-
  The program's words.Open, walked.
-/
namespace Go.Proofs.YtnnldpccagajbaaGreatDoor
open Go.ChangeShapes Go.WideShapes Go.ChangeAt Go.RowKit
set_option linter.unusedVariables false
theorem own_mono_w {w : World} {base base' : Nat} {e : TypeId} {size : Nat} {v : Value} {n : Nat} {xs : List Value} (h : w.ownsRow base e size v n xs) (hb : base' ≤ base) : w.ownsRow base' e size v n xs := by
  obtain ⟨h1, h2⟩ := h
  rcases h2 with h2 | ⟨g, cap, cur, h3, h4, h5⟩
  · exact ⟨h1, Or.inl h2⟩
  · exact ⟨h1, Or.inr ⟨g, cap, cur, h3, Nat.le_trans hb h4, h5⟩⟩
theorem Cur.new (w : World) (b : Nat) (s : ByteArray) (a : Int) (hb : b = w.heap.size) : Cur (w.alloc (.cells #[.string s, .int .i64 a, .int .i64 0] 68)) b s a 0 := by
  subst hb
  refine ⟨?_, ?_, ?_, ?_, ?_⟩
  · simp
  · simp
  · simp
  · exact World.frozen?_alloc_at _ _ _ _ rfl
  · exact World.frozen?_alloc_at _ _ _ _ rfl
set_option maxRecDepth 100000 in
set_option maxHeartbeats 400000 in
theorem at_in (s : ByteArray) (a : Nat) (w : World) (ha : a ≤ s.size) (hs : s.size ≤ 140737488355328) :
    Calls Tryz.prog 37 #[.string s, .int .i64 a] w fun e w' => e = .returned (.agg #[.string s, .int .i64 a, .int .i64 0]) ∧ Below w.heap.size w w' := by
  go_enter Tryz.func37, Tryz.ntmps37
  go_wp2
  exact bodyPost_ret (v := .agg #[.string s, .int .i64 a, .int .i64 0]) (by simp [results, Tryz.results37, go_sem]) rfl ⟨rfl, ((Below.refl _ _).alloc (Nat.le_refl _) _).alloc (by simp) _⟩
/-- texts that are read, whether or not Build would have written them so -/
def lopen (d : ByteArray) : Option (List (List UInt8)) := match uv 0 0 (from_ d 0) with
  | none => none
  | some (n, k) => loose n [] (from_ d k)
theorem open_lopen (d : ByteArray) : open_ d.data.toList = match lopen d with | none => none | some l => if build l = (d.data.toList, 0, 0) then some l else none := by
  cases hu : uv 0 0 (from_ d 0) with
  | none => rw [open_none1 d hu]; unfold lopen; rw [hu]
  | some q => obtain ⟨n, k⟩ := q; rw [open_loose d n k hu]; unfold lopen; rw [hu]; rfl
theorem loose_len (n : Nat) (p d : List UInt8) (l : List (List UInt8)) (h : loose n p d = some l) : l.length = n := by
  induction n generalizing p d l with
  | zero => simp [loose] at h; subst h; rfl
  | succ n ih =>
    rw [loose] at h
    split at h
    · cases h
    · split at h
      · cases h
      · split at h
        · cases h
        · split at h
          · cases h
          · split at h
            · cases h
            · split at h
              · cases h
              · rename_i l' h3
                cases h
                rw [List.length_cons, ih _ _ _ h3]
theorem lopen_len (d : ByteArray) (l : List (List UInt8)) (h : lopen d = some l) : l.length ≤ d.size := by
  unfold lopen at h
  split at h
  · cases h
  · rename_i n k hu
    have h1 := loose_len _ _ _ _ h
    have h2 := parse_count _ _ _ _ (loose_some _ _ _ _ h)
    rw [from_len] at h2
    omega
/-- what 'read' leaves -/
def ReadPost (base : Nat) (r : Option (List (List UInt8))) (e : Ending) (w' : World) : Prop :=
  match r with
  | none => ∃ (v : Value) (z : Int), e = .returned (.tuple #[v, .int .i64 z]) ∧ (z == 0) = false
  | some l => ∃ v, e = .returned (.tuple #[v, .int .i64 0]) ∧ w'.ownsRow base 9 1 v l.length (ts l)
theorem read_none {base : Nat} {r : Option (List (List UInt8))} {v : Value} {z : Int} {w' : World} (h : r = none) (hz : (z == 0) = false) : ReadPost base r (.returned (.tuple #[v, .int .i64 z])) w' := by subst h; exact ⟨v, z, rfl, hz⟩
theorem read_some {base : Nat} {r : Option (List (List UInt8))} {v : Value} {w' : World} (l : List (List UInt8)) (h : r = some l) (ho : w'.ownsRow base 9 1 v l.length (ts l)) : ReadPost base r (.returned (.tuple #[v, .int .i64 0])) w' := by subst h; exact ⟨v, rfl, ho⟩
/-- the reader's state: sound, or with an error -/
def RS (d : ByteArray) (b : Nat) (r : Option (List (List UInt8))) (n j : Nat) (wr : World) (lv ahv : Value) : Prop :=
  (∃ (p : Nat) (done : List (List UInt8)) (ah : List UInt8), j ≤ n ∧ p ≤ d.size ∧ j ≤ p ∧ ahv = .string (str ah) ∧ ah.length ≤ 200 ∧ done.length = j ∧ wr.ownsRow (b + 1) 9 1 lv done.length (ts done) ∧ Cur wr b d (p : Nat) 0 ∧ r = (loose (n - j) ah (from_ d p)).map (done ++ ·))
  ∨ (∃ (a z : Int) (x : ByteArray) (m : Nat) (xs : List Value), (z == 0) = false ∧ j ≤ d.size + 1 ∧ ahv = .string x ∧ wr.ownsRow (b + 1) 9 1 lv m xs ∧ Cur wr b d a z ∧ r = none)
set_option maxRecDepth 100000 in
set_option maxHeartbeats 2000000 in
theorem read_any (d : ByteArray) (w : World) (hd : d.size ≤ 1073741824) :
    Calls Tryz.prog 72 #[.string d] w fun e w' => ReadPost w.heap.size (lopen d) e w' ∧ Below w.heap.size w w' := by
  obtain ⟨i0, hi, hz0, hz1, hz2⟩ := info_parts info9
  cases hu0 : uv 0 0 (from_ d 0) with
  | none =>
    have HU0 : Hid (uv 0 0 (from_ d 0) = none) := hu0
    have HE : Hid (lopen d = none) := by show _ = _; unfold lopen; rw [hu0]
    clear hu0
    go_enter Tryz.func72, Tryz.ntmps72
    go_wp2_with fail
    refine (at_in d 0 _ (by omega) (by omega)).mono ?_
    rintro e w1 ⟨rfl, hb1⟩
    go_wp2_with fail
    refine (cnumber_any w1.heap.size 0 d _ (Cur.new _ _ d _ rfl) (by omega) (by omega)).mono ?_
    rintro e w2 ⟨hp, hg2⟩
    rw [HU0.out] at hp
    obtain ⟨rfl, hc2⟩ := hp
    have HB2 : Hid (Below w.heap.size w w2) := (hb1.alloc hb1.size _).grown hg2 (by have := hb1.size; simp; omega) (fun k hk => by cases hk; exact hb1.size)
    clear hb1 hg2
    go_wp2
    refine wp_loop_rounds 1 ?_
    rw [rounds_succ]
    go_wp2_with fail
    refine (cerr_any _ d _ 4 _ hc2).mono ?_
    rintro e w3 ⟨rfl, rfl⟩
    go_wp2
    go_ret2
    exact ⟨read_none HE.out (by decide), HB2.out⟩
  | some q =>
    obtain ⟨n, K⟩ := q
    obtain ⟨hK0, hK, hn⟩ := uv_in d 0 n K (by omega) hu0
    have HU0 : Hid (uv 0 0 (from_ d 0) = some (n, K)) := hu0
    have HE : Hid (lopen d = loose n [] (from_ d K)) := by show _ = _; unfold lopen; rw [hu0]
    clear hu0
    go_enter Tryz.func72, Tryz.ntmps72
    go_wp2_with fail
    refine (at_in d 0 _ (by omega) (by omega)).mono ?_
    rintro e w1 ⟨rfl, hb1⟩
    go_wp2_with fail
    refine (cnumber_any w1.heap.size 0 d _ (Cur.new _ _ d _ rfl) (by omega) (by omega)).mono ?_
    rintro e w2 ⟨hp, hg2⟩
    rw [HU0.out] at hp
    obtain ⟨rfl, hc2⟩ := hp
    have HB2 : Hid (Below w.heap.size w w2) := (hb1.alloc hb1.size _).grown hg2 (by have := hb1.size; simp; omega) (fun k hk => by cases hk; exact hb1.size)
    obtain ⟨b, hbw, hbb⟩ : ∃ b, b = w1.heap.size ∧ w.heap.size ≤ b := ⟨_, rfl, hb1.size⟩
    rw [← hbw] at hc2 ⊢
    rw [Nat.zero_add] at hc2
    have HC2 : Hid (Cur w2 b d (K : Nat) 0) := hc2
    clear hb1 hg2 hbw hc2
    go_wp2
    go_loopw [6, 7, 8] (fun lv ahv iv wr => ∃ j : Nat, j ≤ d.size + 1 ∧ iv = .int .i64 j ∧ Hid (RS d b (lopen d) n j wr lv ahv) ∧ Hid (Below w.heap.size w wr)) (fun _ _ iv _ => d.size + 2 - (intOf iv).toNat)
    case atStart => exact ⟨0, by omega, rfl, Or.inl ⟨K, [], [], by omega, by omega, by omega, rfl, by simp, rfl, World.ownsRow_nil _ _ _ _, HC2.out, by rw [HE.out]; simp⟩, HB2⟩
    case round =>
      obtain ⟨j, hj, rfl, HS, HB⟩ := hrel
      rcases HS.out with ⟨p, done, ah, hjn, hp, hjp, rfl, hah, hdj, hown, hc, hr⟩ | ⟨a, z, x, m, xs, hz, _, rfl, hown, hc, hr⟩
      · clear HS
        have HR : Hid (lopen d = (loose (n - j) ah (from_ d p)).map (done ++ ·)) := hr
        have HC : Hid (Cur wr b d (p : Nat) 0) := hc
        have HDJ : Hid (done.length = j) := hdj
        clear hr hc hdj
        obtain ⟨la, lc, rfl⟩ := own_shape hown
        by_cases hlt : j < n
        · obtain ⟨sa, HSA⟩ : ∃ sa, Hid (sa = str ah) := ⟨_, rfl⟩
          rw [← HSA.out]
          go_wp2_with fail
          refine (cerr_any b d _ 0 _ HC.out).mono ?_
          rintro e w3 ⟨rfl, rfl⟩
          go_wp2_with fail
          rw [HSA.out]
          refine (readText_any b p d ah _ HC.out hp hd hah).mono ?_
          rintro e w3 ⟨hpost, hg3⟩
          have hown3 : w3.ownsRow (b + 1) 9 1 (.slice la done.length lc) done.length (ts done) := hown.kept hg3 (by
            cases ho : (Value.slice la done.length lc).ownBlock with
            | none => exact Or.inl rfl
            | some g => exact Or.inr (by have := (hown.lt g ho).1; intro e; cases e; omega))
          have HB3 : Hid (Below w.heap.size w w3) := HB.out.grown hg3 HB.out.size (fun k hk => by cases hk; exact hbb)
          have hdl : done.length ≤ 1073741824 := by have := HDJ.out; omega
          have hsz3 : b < w3.heap.size := Nat.lt_of_lt_of_le HC.out.lt hg3.size
          clear hown hg3
          obtain ⟨t, HT⟩ : ∃ t : ByteArray, Hid (e = .returned (.string t)) := by
            cases ho : one d p ah with
            | none => rw [ho] at hpost; obtain ⟨⟨t, rfl⟩, _⟩ := hpost; exact ⟨t, rfl⟩
            | some q => rw [ho] at hpost; obtain ⟨rfl, _⟩ := hpost; exact ⟨_, rfl⟩
          have HPO : Hid (OnePost b d (one d p ah) e w3) := hpost
          clear hpost
          have he := HT.out
          subst he
          go_wp2_with (at_builtin; refine wpList_append_own _ rfl _ _ 45 rfl (b + 1) 9 i0 (.string { data := #[] }) 1 16 Tryz.underlying45 hi hz0 hz1 hz2 rfl (by decide) _ _ _ rfl (hown3.alloc _) ⟨w3.heap.size, 0, none⟩ 1 1 [.string t] rfl rfl ?c1 ?c2 ?c3 ?c4 ?c5 ?_)
          case c1 =>
            intro j' u hj'
            match j', hj' with
            | 0, hj' => simp at hj'; subst hj'; exact World.cell?_alloc_at _ _ _ _ rfl
          case c2 => intro u hu; simp at hu; subst hu; rfl
          case c3 => unfold maxLen; omega
          case c4 => omega
          case c5 => simp; omega
          intro v4 w4 hown4 hg4 _
          have hgg : w3.grownBy w4 (Value.slice la done.length lc).ownBlock := (World.grownBy_alloc w3 _ _).trans hg4
          have hblk : w4.heap[b]? = w3.heap[b]? := hgg.block b hsz3 (fun e => by have := (hown3.lt b e.symm).1; omega)
          have HB4 : Hid (Below w.heap.size w w4) := HB3.out.grown hgg HB3.out.size (fun k hk => by have := (hown3.lt k hk).1; omega)
          have HO4 : Hid (w4.ownsRow (b + 1) 9 1 v4 (done.length + 1) (ts done ++ [.string t])) := hown4
          have HBK : Hid (w4.heap[b]? = w3.heap[b]?) := hblk
          obtain ⟨va, vc, rfl⟩ := own_shape hown4
          clear hown4 hg4 hgg hblk hown3
          go_wp2
          go_roundw
          case rel =>
            refine ⟨j + 1, by omega, by go_num, ?_, HB4⟩
            have hpost := HPO.out
            cases ho : one d p ah with
            | none =>
              rw [ho] at hpost
              obtain ⟨_, a', z', hz', hc'⟩ := hpost
              refine Or.inr ⟨a', z', t, _, _, hz', by omega, rfl, HO4.out, hc'.kept HBK.out, ?_⟩
              rw [HR.out, show n - j = (n - j - 1) + 1 from by omega, loose_one d _ p ah hp, ho]; rfl
            | some q =>
              obtain ⟨t', q'⟩ := q
              rw [ho] at hpost
              obtain ⟨het, hc'⟩ := hpost
              cases het
              have hin := one_in d p q' ah t' hp ho
              refine Or.inl ⟨q', done ++ [t'], t', by omega, hin.2.1, by omega, rfl, hin.2.2, by rw [List.length_append, HDJ.out]; rfl, ?_, hc'.kept HBK.out, ?_⟩
              · have := HO4.out
                rw [ts_snoc] at this
                rw [List.length_append]; exact this
              · rw [HR.out, show n - j = (n - (j + 1)) + 1 from by omega, loose_one d _ p ah hp, ho]
                simp only
                rw [Option.map_map]
                congr 1
                funext x
                simp
          case measure => simp [intOf]; omega
        · have HRR : Hid (lopen d = some done) := by
            show _ = _
            rw [HR.out, show n - j = 0 from by omega]; simp [loose]
          have HO : Hid (wr.ownsRow (b + 1) 9 1 (.slice la done.length lc) done.length (ts done)) := hown
          clear hown
          go_wp2_with fail
          refine (cerr_any b d _ 0 _ HC.out).mono ?_
          rintro e w3 ⟨rfl, rfl⟩
          go_wp2
          go_ret2
          exact ⟨read_some done HRR.out (own_mono_w HO.out (by omega)), HB.out⟩
      · clear HS
        have HR : Hid (lopen d = none) := hr
        have HC : Hid (Cur wr b d a z) := hc
        obtain ⟨la, lc, rfl⟩ := own_shape hown
        clear hr hc hown
        by_cases hlt : j < n
        · go_wp2_with fail
          refine (cerr_any b d _ z _ HC.out).mono ?_
          rintro e w3 ⟨rfl, rfl⟩
          go_wp2_with fail
          refine (cerr_any b d _ z _ HC.out).mono ?_
          rintro e w3 ⟨rfl, rfl⟩
          go_wp2
          go_ret2
          exact ⟨read_none HR.out hz, HB.out⟩
        · go_wp2_with fail
          refine (cerr_any b d _ z _ HC.out).mono ?_
          rintro e w3 ⟨rfl, rfl⟩
          go_wp2
          go_ret2
          exact ⟨read_none HR.out hz, HB.out⟩
theorem openP_none {base : Nat} {r : Option (List (List UInt8))} {w' : World} (h : r = none) : OpenedP base r (.returned (.tuple #[.slice none 0 0, .int .i64 4])) w' := by
  subst h; exact ⟨_, rfl, none, 0, rfl, Or.inl ⟨rfl, fun _ => rfl⟩⟩
theorem openP_some {base : Nat} {r : Option (List (List UInt8))} {v : Value} {w' : World} (l : List (List UInt8)) (h : r = some l) (ho : w'.ownsRow base 9 1 v l.length (ts l)) : OpenedP base r (.returned (.tuple #[v, .int .i64 0])) w' := by
  subst h; exact ⟨_, rfl, ho⟩
set_option maxRecDepth 100000 in
set_option maxHeartbeats 1000000 in
theorem open_said : OpenSaid := by
  intro d w hd
  cases hl : lopen d with
  | none =>
    have HE : Hid (open_ d.data.toList = none) := by show _ = _; rw [open_lopen, hl]
    have HL : Hid (lopen d = none) := hl
    clear hl
    go_enter Tryz.func41, Tryz.ntmps41
    go_wp2_with fail
    refine (read_any d _ hd).mono ?_
    rintro e w1 ⟨hp, hb1⟩
    rw [HL.out] at hp
    obtain ⟨v, z, rfl, hz⟩ := hp
    have hz' : (z != 0) = true := by simp [bne, hz]
    go_wp2
    go_ret2
    exact ⟨openP_none HE.out, hb1⟩
  | some done =>
    have HPD : Hid (open_ d.data.toList = if build done = (d.data.toList, 0, 0) then some done else none) := by show _ = _; rw [open_lopen, hl]
    have hdl : done.length ≤ 1073741824 := by have := lopen_len d done hl; omega
    have HL : Hid (lopen d = some done) := hl
    clear hl
    go_enter Tryz.func41, Tryz.ntmps41
    go_wp2_with fail
    refine (read_any d _ hd).mono ?_
    rintro e w1 ⟨hp, hb1⟩
    rw [HL.out] at hp
    obtain ⟨v, rfl, hown⟩ := hp
    obtain ⟨la, lc, rfl⟩ := own_shape hown
    have HO : Hid (w1.ownsRow w.heap.size 9 1 (.slice la done.length lc) done.length (ts done)) := hown
    clear hown
    go_wp2_with fail
    refine (build_said _ done _ (own_strs HO.out) hdl).mono ?_
    rintro e w2 ⟨rfl, hb2⟩
    have HO2 : Hid (w2.ownsRow w.heap.size 9 1 (.slice la done.length lc) done.length (ts done)) := own_kept HO.out hb2
    have hbl2 : Below w.heap.size w w2 := hb1.trans (hb2.mono hb1.size)
    clear HO hb2 hb1
    obtain ⟨rt, re, ri, hr⟩ : ∃ rt re ri, Hid (build done = (rt, re, ri)) := ⟨_, _, _, rfl⟩
    rw [built_tuple hr.out]
    have hiff := build_iff done d.data.toList
    rw [hr.out] at hiff
    simp only at hiff
    by_cases hre : re = 0
    · by_cases hrt : rt = d.data.toList
      · have HF : Hid (open_ d.data.toList = some done) := by
          show _ = _
          rw [HPD.out, if_pos (by rw [hr.out]; exact hiff.2 ⟨hre, hrt⟩)]
        have hse : ((str rt).toList == d.toList) = true := by rw [toList_str, toList_of, hrt]; simp
        have hr0 : ((re : Int) != 0) = false := by simp [hre]
        clear hiff hre hrt
        go_wp2
        go_ret2
        exact ⟨openP_some done HF.out HO2.out, hbl2⟩
      · have HF : Hid (open_ d.data.toList = none) := by
          show _ = _
          rw [HPD.out, if_neg (by rw [hr.out]; exact fun h => hrt (hiff.1 h).2)]
        have hse : ((str rt).toList == d.toList) = false := by rw [toList_str, toList_of]; simp [hrt]
        have hr0 : ((re : Int) != 0) = false := by simp [hre]
        clear hiff hre hrt
        go_wp2
        go_ret2
        exact ⟨openP_none HF.out, hbl2⟩
    · have HF : Hid (open_ d.data.toList = none) := by
        show _ = _
        rw [HPD.out, if_neg (by rw [hr.out]; exact fun h => hre (hiff.1 h).1)]
      have hr0 : ((re : Int) != 0) = true := by simp [hre]
      clear hiff hre
      go_wp2
      go_ret2
      exact ⟨openP_none HF.out, hbl2⟩
end Go.Proofs.YtnnldpccagajbaaGreatDoor
