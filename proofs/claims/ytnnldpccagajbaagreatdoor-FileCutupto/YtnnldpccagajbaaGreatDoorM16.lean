import Derived.Test.YtnnldpccagajbaaGreatDoorM15
import Derived.Test.YtnnldpccagajbaaGreatDoorM03
import Derived.Test.YtnnldpccagajbaaGreatDoorM04
/-
  C3, C4 in plain words of lists: files that are cut, that have more behind, that are damaged. Nothing of the program.
-/
namespace Go.Proofs.YtnnldpccagajbaaGreatDoor
/-- how many bytes so many pages take -/
def pagesLen : Nat → List UInt8 → Nat
  | 0, _ => 0
  | n + 1, b => match pageOf b with
    | .error _ => 0
    | .ok (_, m) => m + pagesLen n (b.drop m)
theorem pagesLen_pages (ps : List (List UInt8)) (x : List UInt8) (h : ∀ p ∈ ps, p.length < 9223372036854775808) : pagesLen ps.length ((ps.map page).flatten ++ x) = (ps.map page).flatten.length := by
  induction ps with
  | nil => rfl
  | cons p ps ih =>
    rw [List.length_cons, pagesLen, List.map_cons, List.flatten_cons, List.append_assoc, pageOf_page p _ (h p (by simp))]
    simp only
    rw [List.drop_left, ih (fun q hq => h q (by simp [hq])), List.length_append]
/-- how many bytes a file has, by its first page -/
def fileLen (d : List UInt8) : Nat := match pageOf (d.drop 4) with
  | .error _ => 0
  | .ok (s, m) => 8 + m + pagesLen (1 + arOf s) (d.drop (4 + m))
theorem fileLen_pack (name : List UInt8) (ar : Nat) (L : List (List (List UInt8))) (x : List UInt8) (h : Tidy name ar L) : fileLen (packF name ar L ++ x) = (packF name ar L).length := by
  have hl := pagesOf_len name ar L h
  have ha := h.a8
  have h4 : (Crc.sum (bodyP name ar L)).length = 4 := rfl
  have hp : pagesOf name ar L = headT name ar L.length :: (pagesOf name ar L).tail := rfl
  have hm : ((pagesOf name ar L).map page).flatten = page (headT name ar L.length) ++ ((pagesOf name ar L).tail.map page).flatten := by rw [hp]; rfl
  obtain ⟨y, hy⟩ : ∃ y, y = Crc.sum (bodyP name ar L) ++ x := ⟨_, rfl⟩
  have e : packF name ar L ++ x = [82, 69, 76, 49] ++ (page (headT name ar L.length) ++ (((pagesOf name ar L).tail.map page).flatten ++ y)) := by
    unfold packF
    rw [hy]
    conv => lhs; rw [show bodyP name ar L ++ Crc.sum (bodyP name ar L) ++ x = bodyP name ar L ++ (Crc.sum (bodyP name ar L) ++ x) from by rw [List.append_assoc]]
    generalize Crc.sum (bodyP name ar L) ++ x = z
    rw [bodyF_pages, hm]; simp only [List.append_assoc]
  have hlen : (packF name ar L).length = 8 + (page (headT name ar L.length)).length + ((pagesOf name ar L).tail.map page).flatten.length := by
    unfold packF
    rw [List.length_append, h4, bodyF_pages, hm]
    simp only [List.length_append, List.length_cons, List.length_nil]
    omega
  rw [e, hlen]
  unfold fileLen
  have d4 : ∀ z : List UInt8, ([82, 69, 76, 49] ++ z).drop 4 = z := fun _ => rfl
  have h2 := pageOf_page (headT name ar L.length) (((pagesOf name ar L).tail.map page).flatten ++ y) (hl _ (by rw [hp]; simp))
  rw [d4, h2]
  simp only
  rw [← List.drop_drop, d4, List.drop_left, arOf_headT name ar L.length h.isn (by omega) h.few]
  have hn : 1 + ar = (pagesOf name ar L).tail.length := by unfold pagesOf; simp; omega
  rw [hn, pagesLen_pages _ y (fun p hp2 => hl p (List.mem_of_mem_tail hp2))]
/-- C3: a file with more behind it is none -/
theorem no_more (n1 n2 : List UInt8) (a1 a2 : Int) (r1 r2 : List (List (List UInt8))) (s x : List UInt8) (h1 : encode n1 a1 r1 = (s, 0, 0)) (h2 : encode n2 a2 r2 = (s ++ x, 0, 0)) : x = [] := by
  obtain ⟨L1, -, hT1, hd1, -, -⟩ := encode_tidy n1 a1 r1 s h1
  obtain ⟨L2, -, hT2, hd2, -, -⟩ := encode_tidy n2 a2 r2 (s ++ x) h2
  obtain ⟨m1, rfl⟩ := Int.eq_ofNat_of_zero_le hT1.a0
  obtain ⟨m2, rfl⟩ := Int.eq_ofNat_of_zero_le hT2.a0
  rw [Int.toNat_natCast] at hd1 hd2
  have f1 := fileLen_pack n1 m1 L1 x hT1
  have f2 := fileLen_pack n2 m2 L2 [] hT2
  rw [← hd1] at f1
  rw [List.append_nil, ← hd2, f1, List.length_append] at f2
  exact List.length_eq_zero_iff.1 (by omega)
set_option maxRecDepth 100000 in
theorem leN_four (n : Nat) (h : n < 2 ^ 32) : Crc.leN ((Crc.four n).map UInt8.toNat) = n := by
  have e : ∀ c x : Nat, c < 256 → c ^^^ x * 2 ^ 8 = c + 256 * x := by
    intro c x hc
    obtain ⟨h1, h2⟩ := Crc.leN_lt8 c x hc
    omega
  simp only [Crc.four, List.map_cons, List.map_nil, Crc.leN, UInt8.toNat_ofNat']
  rw [e _ _ (Nat.mod_lt _ (by decide)), e _ _ (Nat.mod_lt _ (by decide)), e _ _ (Nat.mod_lt _ (by decide)), e _ _ (Nat.mod_lt _ (by decide))]
  have h' : n < 4294967296 := h
  have e2 : n / 65536 = n / 256 / 256 := by rw [Nat.div_div_eq_div_mul]
  have e3 : n / 16777216 = n / 256 / 256 / 256 := by rw [Nat.div_div_eq_div_mul, Nat.div_div_eq_div_mul]
  rw [e2, e3]
  clear e h e2 e3
  omega
theorem crc_app (n : Nat) (l t : List Nat) : Crc.crc n (l ++ t) = Crc.crc (Crc.crc n l) t := by unfold Crc.crc; rw [List.foldl_append]
set_option maxRecDepth 100000 in
theorem num_sealed (b : List UInt8) : Crc.num (b ++ Crc.sum b) = Crc.halves 32 Crc.start ^^^ Crc.start := by
  have h1 : Crc.leN ((Crc.sum b).map UInt8.toNat) = Crc.num b := leN_four _ (Crc.num_lt b)
  have h2 := Crc.crc_halves ((Crc.sum b).map UInt8.toNat) (Crc.crc Crc.start (b.map UInt8.toNat))
  have h3 : 8 * ((Crc.sum b).map UInt8.toNat).length = 32 := by simp only [Crc.sum, Crc.four, List.map_cons, List.map_nil, List.length_cons, List.length_nil]
  rw [h3, h1] at h2
  have h4 : Crc.crc Crc.start (b.map UInt8.toNat) ^^^ Crc.num b = Crc.start := by unfold Crc.num; rw [← Nat.xor_assoc, Nat.xor_self, Nat.zero_xor]
  rw [h4] at h2
  unfold Crc.num
  rw [List.map_append, crc_app, ← h2]
/-- C4 -/
theorem no_turned (n1 n2 : List UInt8) (a1 a2 : Int) (r1 r2 : List (List (List UInt8))) (s t : List UInt8) (h1 : encode n1 a1 r1 = (s, 0, 0)) (h2 : encode n2 a2 r2 = (t, 0, 0))
    (m f : Nat) (hn : s.length = t.length) (hm : m < 2 ^ 32) (hf : f ≤ 8 * s.length) (hx : Crc.leN (s.map UInt8.toNat) ^^^ Crc.leN (t.map UInt8.toNat) = m * 2 ^ f) : s = t := by
  obtain ⟨L1, -, -, hd1, -, -⟩ := encode_tidy n1 a1 r1 s h1
  obtain ⟨L2, -, -, hd2, -, -⟩ := encode_tidy n2 a2 r2 t h2
  refine Crc.sum_turned s t m f hn hm hf hx ?_
  have key : ∀ (n : List UInt8) (a : Nat) (L : List (List (List UInt8))), Crc.sum (packF n a L) = Crc.four (Crc.halves 32 Crc.start ^^^ Crc.start) := by
    intro n a L
    have := num_sealed (bodyP n a L)
    unfold packF
    rw [Crc.sum, this]
  rw [hd1, hd2, key, key]
end Go.Proofs.YtnnldpccagajbaaGreatDoor

/-
  The document's Open, walked.
-/
namespace Go.Proofs.YtnnldpccagajbaaGreatDoor
open Go.ChangeShapes Go.WideShapes Go.ChangeAt Go.RowKit
set_option linter.unusedVariables false
theorem runv_none (s : ByteArray) (z : Int) (w : World) (hs : s.size ≤ 140737488355328) (h0 : 0 ≤ z) (h1 : z ≤ s.size) (hu : Hid (uv 0 0 (from_ s z.toNat) = none)) :
    Calls Tryz.prog 43 #[.string s, .int .i64 z] w fun e w' => e = .returned (.tuple #[.int .i64 0, .int .i64 (-1)]) ∧ w = w' := by
  obtain ⟨m, rfl⟩ := Int.eq_ofNat_of_zero_le h0
  refine (runvarint_any s m w hs (by omega)).mono ?_
  rintro e w' ⟨rfl, hb⟩
  rw [Int.toNat_natCast] at hu
  exact ⟨by rw [hu.out]; rfl, hb.symm⟩
theorem runv_some (s : ByteArray) (z : Int) (n k : Nat) (w : World) (hs : s.size ≤ 140737488355328) (h0 : 0 ≤ z) (h1 : z ≤ s.size) (hu : Hid (uv 0 0 (from_ s z.toNat) = some (n, k))) :
    Calls Tryz.prog 43 #[.string s, .int .i64 z] w fun e w' => e = .returned (.tuple #[.int .i64 n, .int .i64 (z + (k : Int))]) ∧ w = w' := by
  obtain ⟨m, rfl⟩ := Int.eq_ofNat_of_zero_le h0
  refine (runvarint_any s m w hs (by omega)).mono ?_
  rintro e w' ⟨rfl, hb⟩
  rw [Int.toNat_natCast] at hu
  exact ⟨by rw [hu.out]; show Ending.returned (.tuple #[.int .i64 n, .int .i64 ((m + k : Nat) : Int)]) = _; push_cast; rfl, hb.symm⟩
theorem cut_join (ah : List UInt8) (d : ByteArray) (head a rest : Nat) : (str ah).extract 0 head ++ d.extract a (a + rest) = str (ah.take head ++ (from_ d a).take rest) := by
  rw [← str_app]
  congr 1
  · apply WideShapes.bytes_inj
    rw [Lib.extract_data, data_str, data_str]; simp
  · apply WideShapes.bytes_inj
    rw [Lib.extract_data, data_str, from_]; simp
/-- what Open leaves -/
def Opened (base : Nat) (r : Option (List (List UInt8))) (e : Ending) (w' : World) : Prop :=
  match r with
  | none => e = .returned (.tuple #[.slice none 0 0, .bool false])
  | some l => ∃ v, e = .returned (.tuple #[v, .bool true]) ∧ w'.ownsRow base 9 1 v l.length (ts l)
theorem opened_none {base : Nat} {r : Option (List (List UInt8))} {w' : World} (h : r = none) : Opened base r (.returned (.tuple #[.slice none 0 0, .bool false])) w' := by subst h; rfl
theorem opened_some {base : Nat} {r : Option (List (List UInt8))} {w' : World} {v : Value} (l : List (List UInt8)) (h : r = some l) (hv : w'.ownsRow base 9 1 v l.length (ts l)) : Opened base r (.returned (.tuple #[v, .bool true])) w' := by subst h; exact ⟨v, rfl, hv⟩
set_option maxRecDepth 100000 in
set_option maxHeartbeats 2000000 in
theorem ropen_any (d : ByteArray) (w : World) (hd : d.size ≤ 1073741824) :
    Calls Tryz.prog 44 #[.string d] w fun e w' => Opened w.heap.size (open_ d.data.toList) e w' ∧ Below w.heap.size w w' := by
  obtain ⟨i0, hi, hz0, hz1, hz2⟩ := info_parts info9
  cases hu0 : uv 0 0 (from_ d 0) with
  | none =>
    have HE : Hid (open_ d.data.toList = none) := open_none1 d hu0
    go_enter Tryz.func44, Tryz.ntmps44
    have HU0 : Hid (uv 0 0 (from_ d (0 : Int).toNat) = none) := hu0
    clear hu0
    go_wp2_with fail
    refine (runv_none d 0 _ (by omega) (by omega) (by omega) HU0).mono ?_
    rintro e w1 ⟨rfl, rfl⟩
    go_wp2
    go_ret2
    exact ⟨opened_none HE.out, Below.refl _ _⟩
  | some q =>
    obtain ⟨N, K⟩ := q
    obtain ⟨hK0, hK, hN⟩ := uv_in d 0 N K (by omega) hu0
    have HU0 : Hid (uv 0 0 (from_ d (0 : Int).toNat) = some (N, K)) := hu0
    by_cases hNd : d.size < N
    · have HE : Hid (open_ d.data.toList = none) := open_none2 d N K hu0 hNd
      clear hu0
      go_enter Tryz.func44, Tryz.ntmps44
      go_wp2_with fail
      refine (runv_some d 0 N K _ (by omega) (by omega) (by omega) HU0).mono ?_
      rintro e w1 ⟨rfl, rfl⟩
      go_wp2
      go_ret2
      exact ⟨opened_none HE.out, Below.refl _ _⟩
    · have HE : Hid (open_ d.data.toList = match parse N [] (from_ d K) with | none => none | some l => if build l = (d.data.toList, 0, 0) then some l else none) := open_of d N K hu0 (by omega)
      clear hu0
      go_enter Tryz.func44, Tryz.ntmps44
      go_wp2_with fail
      refine (runv_some d 0 N K _ (by omega) (by omega) (by omega) HU0).mono ?_
      rintro e w1 ⟨rfl, rfl⟩
      go_wp2
      go_loopw [5, 6, 7, 8] (fun at_ lv ahv iv wr => ∃ (j p : Nat) (done : List (List UInt8)) (ah : List UInt8), j ≤ N ∧ p ≤ d.size ∧ iv = .int .i64 j ∧ at_ = .int .i64 p ∧ ahv = .string (str ah) ∧ ah.length ≤ p ∧ wr.ownsRow w.heap.size 9 1 lv done.length (ts done) ∧ Hid (done.length = j) ∧ Below w.heap.size w wr ∧ Hid (parse N [] (from_ d K) = (parse (N - j) ah (from_ d p)).map (done ++ ·))) (fun _ _ _ iv _ => N - (intOf iv).toNat)
      case atStart => exact ⟨0, K, [], [], by omega, by omega, rfl, by go_num, rfl, by simp, World.ownsRow_nil _ _ _ _, rfl, Below.refl _ _, by show _ = _; simp⟩
      case round =>
        obtain ⟨j, p, done, ah, hj, hp, rfl, rfl, rfl, hah, hown, HDL, hbl, HP⟩ := hrel
        by_cases hlt : j < N
        · cases hu1 : uv 0 0 (from_ d p) with
          | none =>
            have HF : Hid (open_ d.data.toList = none) := by
              show _ = _
              rw [HE.out, HP.out, show N - j = (N - j - 1) + 1 from by omega, parse_none1 d _ p ah hu1]; rfl
            have HU1 : Hid (uv 0 0 (from_ d ((p : Int)).toNat) = none) := by show _ = _; rw [Int.toNat_natCast]; exact hu1
            clear hu1
            go_wp2_with fail
            refine (runv_none d p _ (by omega) (by omega) (by omega) HU1).mono ?_
            rintro e w2 ⟨rfl, rfl⟩
            go_wp2
            go_ret2
            exact ⟨opened_none HF.out, hbl⟩
          | some q1 =>
            obtain ⟨head, k1⟩ := q1
            obtain ⟨hk10, hk1, hhd⟩ := uv_in d p head k1 hp hu1
            have HU1 : Hid (uv 0 0 (from_ d ((p : Int)).toNat) = some (head, k1)) := by show _ = _; rw [Int.toNat_natCast]; exact hu1
            have hsz : (str ah).size = ah.length := str_size ah
            by_cases hhl : ah.length < head
            · have HF : Hid (open_ d.data.toList = none) := by
                show _ = _
                rw [HE.out, HP.out, show N - j = (N - j - 1) + 1 from by omega, parse_none2 d _ p head k1 ah hu1 hhl]; rfl
              clear hu1
              go_wp2_with fail
              refine (runv_some d p head k1 _ (by omega) (by omega) (by omega) HU1).mono ?_
              rintro e w2 ⟨rfl, rfl⟩
              go_wp2
              go_ret2
              exact ⟨opened_none HF.out, hbl⟩
            · cases hu2 : uv 0 0 (from_ d (p + k1)) with
              | none =>
                have HF : Hid (open_ d.data.toList = none) := by
                  show _ = _
                  rw [HE.out, HP.out, show N - j = (N - j - 1) + 1 from by omega, parse_none3 d _ p head k1 ah hu1 hu2]; rfl
                have HU2 : Hid (uv 0 0 (from_ d ((p : Int) + (k1 : Int)).toNat) = none) := by show _ = _; rw [show ((p : Int) + (k1 : Int)).toNat = p + k1 from by omega]; exact hu2
                clear hu1 hu2
                go_wp2_with fail
                refine (runv_some d p head k1 _ (by omega) (by omega) (by omega) HU1).mono ?_
                rintro e w2 ⟨rfl, rfl⟩
                go_wp2_with fail
                refine (runv_none d _ _ (by omega) (by omega) (by omega) HU2).mono ?_
                rintro e w3 ⟨rfl, rfl⟩
                go_wp2
                go_ret2
                exact ⟨opened_none HF.out, hbl⟩
              | some q2 =>
                obtain ⟨rest, k2⟩ := q2
                obtain ⟨hk20, hk2, hrs⟩ := uv_in d (p + k1) rest k2 hk1 hu2
                have HU2 : Hid (uv 0 0 (from_ d ((p : Int) + (k1 : Int)).toNat) = some (rest, k2)) := by show _ = _; rw [show ((p : Int) + (k1 : Int)).toNat = p + k1 from by omega]; exact hu2
                by_cases hrl : d.size - (p + k1 + k2) < rest
                · have HF : Hid (open_ d.data.toList = none) := by
                    show _ = _
                    rw [HE.out, HP.out, show N - j = (N - j - 1) + 1 from by omega, parse_none4 d _ p head k1 rest k2 ah hu1 hu2 hrl]; rfl
                  have hrl' : (d.size : Int) - ((p : Int) + (k1 : Int) + (k2 : Int)) < (rest : Int) := by omega
                  clear hu1 hu2
                  go_wp2_with fail
                  refine (runv_some d p head k1 _ (by omega) (by omega) (by omega) HU1).mono ?_
                  rintro e w2 ⟨rfl, rfl⟩
                  go_wp2_with fail
                  refine (runv_some d _ rest k2 _ (by omega) (by omega) (by omega) HU2).mono ?_
                  rintro e w3 ⟨rfl, rfl⟩
                  go_wp2
                  go_ret2
                  exact ⟨opened_none HF.out, hbl⟩
                · have HN2 : Hid (parse N [] (from_ d K) = (parse (N - (j + 1)) (ah.take head ++ (from_ d (p + k1 + k2)).take rest) (from_ d (p + k1 + k2 + rest))).map ((done ++ [ah.take head ++ (from_ d (p + k1 + k2)).take rest]) ++ ·)) := by
                    show _ = _
                    rw [HP.out, show N - j = (N - (j + 1)) + 1 from by omega, parse_step d _ p head k1 rest k2 ah hu1 (by omega) hu2 (by omega), Option.map_map]
                    congr 1
                    funext x
                    simp
                  have hrl' : (rest : Int) ≤ (d.size : Int) - ((p : Int) + (k1 : Int) + (k2 : Int)) := by omega
                  clear hu1 hu2
                  go_wp2_with fail
                  refine (runv_some d p head k1 _ (by omega) (by omega) (by omega) HU1).mono ?_
                  rintro e w2 ⟨rfl, rfl⟩
                  go_wp2_with fail
                  refine (runv_some d _ rest k2 _ (by omega) (by omega) (by omega) HU2).mono ?_
                  rintro e w3 ⟨rfl, rfl⟩
                  go_wp2
                  go_quiet (fail)
                  have htext : (str ah).extract 0 head ++ d.extract (p + k1 + k2) (p + k1 + k2 + rest) = str (ah.take head ++ (from_ d (p + k1 + k2)).take rest) := cut_join ah d head _ rest
                  have HTX : Hid ((str ah).extract 0 head ++ d.extract (p + k1 + k2) (p + k1 + k2 + rest) = str (ah.take head ++ (from_ d (p + k1 + k2)).take rest)) := htext
                  clear htext
                  have hdl : done.length ≤ 1073741824 := by have := HDL.out; omega
                  go_wp2_with (at_builtin; refine wpList_append_own _ rfl _ _ 45 rfl w.heap.size 9 i0 (.string { data := #[] }) 1 16 Tryz.underlying45 hi hz0 hz1 hz2 rfl (by decide) _ _ _ rfl ((own_draws hown nq).alloc _) ⟨wr.heap.size, 0, none⟩ 1 1 [.string ((str ah).extract 0 head ++ d.extract (p + k1 + k2) (p + k1 + k2 + rest))] rfl rfl ?c1 ?c2 ?c3 ?c4 ?c5 ?_)
                  case c1 =>
                    intro j' u hj'
                    match j', hj' with
                    | 0, hj' => simp at hj'; subst hj'; exact World.cell?_alloc_at _ _ _ _ rfl
                  case c2 => intro u hu; simp at hu; subst hu; rfl
                  case c3 => unfold maxLen; omega
                  case c4 => omega
                  case c5 => have := hbl.size; simp; omega
                  intro v4 w4 hown4 hg4 _
                  have hbl4 : Below w.heap.size w w4 := grown_own (below_drewN hbl nq) (own_draws hown nq) hg4
                  have hown5 : w4.ownsRow w.heap.size 9 1 v4 (done ++ [ah.take head ++ (from_ d (p + k1 + k2)).take rest]).length (ts (done ++ [ah.take head ++ (from_ d (p + k1 + k2)).take rest])) := by
                    rw [HTX.out, ts_snoc] at hown4
                    rw [List.length_append]; exact hown4
                  clear hown4 hg4 hown
                  have hal : (ah.take head ++ (from_ d (p + k1 + k2)).take rest).length ≤ p + k1 + k2 + rest := by
                    rw [List.length_append, List.length_take, List.length_take]; omega
                  have HDL2 : Hid ((done ++ [ah.take head ++ (from_ d (p + k1 + k2)).take rest]).length = j + 1) := by show _ = _; rw [List.length_append, HDL.out]; rfl
                  have hp2 : p + k1 + k2 + rest ≤ d.size := by omega
                  go_wp2
                  go_roundw
                  case rel => exact ⟨j + 1, p + k1 + k2 + rest, _, _, by omega, hp2, by go_num, by go_num, by rw [HTX.out], hal, hown5, HDL2, hbl4, HN2⟩
                  case measure => simp [intOf]; omega
        · have HPD : Hid (open_ d.data.toList = if build done = (d.data.toList, 0, 0) then some done else none) := by
            show _ = _
            rw [HE.out, HP.out, show N - j = 0 from by omega]; simp [parse]
          have hdl : done.length ≤ 1073741824 := by have := HDL.out; omega
          go_wp2_with fail
          refine (rbuild_any _ done _ (own_strs hown) hdl).mono ?_
          rintro e w2 ⟨rfl, hb2⟩
          have hown2 := own_kept hown hb2
          have hbl2 : Below w.heap.size w w2 := hbl.trans (hb2.mono hbl.size)
          clear hown hb2 hbl
          obtain ⟨rt, re, ri, hr⟩ : ∃ rt re ri, Hid (build done = (rt, re, ri)) := ⟨_, _, _, rfl⟩
          rw [show built (build done) = .tuple #[.string (str rt), .int .i64 (re : Nat), .int .i64 (ri : Nat)] from by rw [hr.out]; rfl]
          have hiff := build_iff done d.data.toList
          rw [hr.out] at hiff
          simp only at hiff
          by_cases hre : re = 0
          · by_cases hrt : rt = d.data.toList
            · have HF : Hid (open_ d.data.toList = some done) := by
                show _ = _
                rw [HPD.out, if_pos (by rw [hr.out]; exact hiff.2 ⟨hre, hrt⟩)]
              have hse : ((str rt).toList == d.toList) = true := by rw [toList_str, toList_of, hrt]; simp
              have hr0 : ((re : Int) != 0) = false := by simp [hre]
              clear hiff hre hrt
              go_wp2
              go_ret2
              exact ⟨opened_some done HF.out hown2, hbl2⟩
            · have HF : Hid (open_ d.data.toList = none) := by
                show _ = _
                rw [HPD.out, if_neg (by rw [hr.out]; exact fun h => hrt (hiff.1 h).2)]
              have hse : ((str rt).toList == d.toList) = false := by rw [toList_str, toList_of]; simp [hrt]
              have hr0 : ((re : Int) != 0) = false := by simp [hre]
              clear hiff hre hrt
              go_wp2
              go_ret2
              exact ⟨opened_none HF.out, hbl2⟩
          · have HF : Hid (open_ d.data.toList = none) := by
              show _ = _
              rw [HPD.out, if_neg (by rw [hr.out]; exact fun h => hre (hiff.1 h).1)]
            have hr0 : ((re : Int) != 0) = true := by simp [hre]
            clear hiff hre
            go_wp2
            go_ret2
            exact ⟨opened_none HF.out, hbl2⟩
end Go.Proofs.YtnnldpccagajbaaGreatDoor
