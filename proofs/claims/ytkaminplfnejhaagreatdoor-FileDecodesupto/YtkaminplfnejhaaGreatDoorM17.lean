import Derived.Test.YtkaminplfnejhaaGreatDoorM16
/-
  C3, C4 in plain words of lists: files that are cut, that have more behind, that are damaged. Nothing of the program.
-/
namespace Go.Proofs.YtkaminplfnejhaaGreatDoor
/-- how many bytes so many pages take -/
def pagesLen : Nat → List UInt8 → Nat
  | 0, _ => 0
  | n + 1, b => match pageOf b with
    | .error _ => 0
    | .ok (_, m) => m + pagesLen n (b.drop m)
theorem pagesLen_pages (ps : List (List UInt8)) (x : List UInt8) (h : ∀ p ∈ ps, p.length < 9223372036854775808) : pagesLen ps.length ((ps.map page).flatten ++ x) = (ps.map page).flatten.length := by
  induction ps with
  | nil => rfl
  | cons p ps ih =>
    rw [List.length_cons, pagesLen, List.map_cons, List.flatten_cons, List.append_assoc, pageOf_page p _ (h p (by simp))]
    simp only
    rw [List.drop_left, ih (fun q hq => h q (by simp [hq])), List.length_append]
/-- how many bytes a file has, by its first page -/
def fileLen (d : List UInt8) : Nat := match pageOf (d.drop 4) with
  | .error _ => 0
  | .ok (s, m) => 8 + m + pagesLen (1 + arOf s) (d.drop (4 + m))
theorem fileLen_pack (name : List UInt8) (ar : Nat) (L : List (List (List UInt8))) (x : List UInt8) (h : Tidy name ar L) : fileLen (packF name ar L ++ x) = (packF name ar L).length := by
  have hl := pagesOf_len name ar L h
  have ha := h.a8
  have h4 : (Crc.sum (bodyF name ar L)).length = 4 := rfl
  have hp : pagesOf name ar L = headT name ar L.length :: (pagesOf name ar L).tail := rfl
  have hm : ((pagesOf name ar L).map page).flatten = page (headT name ar L.length) ++ ((pagesOf name ar L).tail.map page).flatten := by rw [hp]; rfl
  obtain ⟨y, hy⟩ : ∃ y, y = Crc.sum (bodyF name ar L) ++ x := ⟨_, rfl⟩
  have e : packF name ar L ++ x = [82, 69, 76, 49] ++ (page (headT name ar L.length) ++ (((pagesOf name ar L).tail.map page).flatten ++ y)) := by
    unfold packF
    rw [hy]
    conv => lhs; rw [show bodyF name ar L ++ Crc.sum (bodyF name ar L) ++ x = bodyF name ar L ++ (Crc.sum (bodyF name ar L) ++ x) from by rw [List.append_assoc]]
    generalize Crc.sum (bodyF name ar L) ++ x = z
    rw [bodyF_pages, hm]; simp only [List.append_assoc]
  have hlen : (packF name ar L).length = 8 + (page (headT name ar L.length)).length + ((pagesOf name ar L).tail.map page).flatten.length := by
    unfold packF
    rw [List.length_append, h4, bodyF_pages, hm]
    simp only [List.length_append, List.length_cons, List.length_nil]
    omega
  rw [e, hlen]
  unfold fileLen
  have d4 : ∀ z : List UInt8, ([82, 69, 76, 49] ++ z).drop 4 = z := fun _ => rfl
  have h2 := pageOf_page (headT name ar L.length) (((pagesOf name ar L).tail.map page).flatten ++ y) (hl _ (by rw [hp]; simp))
  rw [d4, h2]
  simp only
  rw [← List.drop_drop, d4, List.drop_left, arOf_headT name ar L.length h.isn (by omega) h.few]
  have hn : 1 + ar = (pagesOf name ar L).tail.length := by unfold pagesOf; simp; omega
  rw [hn, pagesLen_pages _ y (fun p hp2 => hl p (List.mem_of_mem_tail hp2))]
/-- C3: a file with more behind it is none -/
theorem no_more (n1 n2 : List UInt8) (a1 a2 : Int) (r1 r2 : List (List (List UInt8))) (s x : List UInt8) (h1 : encode n1 a1 r1 = (s, 0, 0)) (h2 : encode n2 a2 r2 = (s ++ x, 0, 0)) : x = [] := by
  obtain ⟨L1, -, hT1, hd1, -, -⟩ := encode_tidy n1 a1 r1 s h1
  obtain ⟨L2, -, hT2, hd2, -, -⟩ := encode_tidy n2 a2 r2 (s ++ x) h2
  obtain ⟨m1, rfl⟩ := Int.eq_ofNat_of_zero_le hT1.a0
  obtain ⟨m2, rfl⟩ := Int.eq_ofNat_of_zero_le hT2.a0
  rw [Int.toNat_natCast] at hd1 hd2
  have f1 := fileLen_pack n1 m1 L1 x hT1
  have f2 := fileLen_pack n2 m2 L2 [] hT2
  rw [← hd1] at f1
  rw [List.append_nil, ← hd2, f1, List.length_append] at f2
  exact List.length_eq_zero_iff.1 (by omega)
set_option maxRecDepth 100000 in
theorem leN_four (n : Nat) (h : n < 2 ^ 32) : Crc.leN ((Crc.four n).map UInt8.toNat) = n := by
  have e : ∀ c x : Nat, c < 256 → c ^^^ x * 2 ^ 8 = c + 256 * x := by
    intro c x hc
    obtain ⟨h1, h2⟩ := Crc.leN_lt8 c x hc
    omega
  simp only [Crc.four, List.map_cons, List.map_nil, Crc.leN, UInt8.toNat_ofNat']
  rw [e _ _ (Nat.mod_lt _ (by decide)), e _ _ (Nat.mod_lt _ (by decide)), e _ _ (Nat.mod_lt _ (by decide)), e _ _ (Nat.mod_lt _ (by decide))]
  have h' : n < 4294967296 := h
  have e2 : n / 65536 = n / 256 / 256 := by rw [Nat.div_div_eq_div_mul]
  have e3 : n / 16777216 = n / 256 / 256 / 256 := by rw [Nat.div_div_eq_div_mul, Nat.div_div_eq_div_mul]
  rw [e2, e3]
  clear e h e2 e3
  omega
theorem crc_app (n : Nat) (l t : List Nat) : Crc.crc n (l ++ t) = Crc.crc (Crc.crc n l) t := by unfold Crc.crc; rw [List.foldl_append]
set_option maxRecDepth 100000 in
theorem num_sealed (b : List UInt8) : Crc.num (b ++ Crc.sum b) = Crc.halves 32 Crc.start ^^^ Crc.start := by
  have h1 : Crc.leN ((Crc.sum b).map UInt8.toNat) = Crc.num b := leN_four _ (Crc.num_lt b)
  have h2 := Crc.crc_halves ((Crc.sum b).map UInt8.toNat) (Crc.crc Crc.start (b.map UInt8.toNat))
  have h3 : 8 * ((Crc.sum b).map UInt8.toNat).length = 32 := by simp only [Crc.sum, Crc.four, List.map_cons, List.map_nil, List.length_cons, List.length_nil]
  rw [h3, h1] at h2
  have h4 : Crc.crc Crc.start (b.map UInt8.toNat) ^^^ Crc.num b = Crc.start := by unfold Crc.num; rw [← Nat.xor_assoc, Nat.xor_self, Nat.zero_xor]
  rw [h4] at h2
  unfold Crc.num
  rw [List.map_append, crc_app, ← h2]
/-- C4 -/
theorem no_turned (n1 n2 : List UInt8) (a1 a2 : Int) (r1 r2 : List (List (List UInt8))) (s t : List UInt8) (h1 : encode n1 a1 r1 = (s, 0, 0)) (h2 : encode n2 a2 r2 = (t, 0, 0))
    (m f : Nat) (hn : s.length = t.length) (hm : m < 2 ^ 32) (hf : f ≤ 8 * s.length) (hx : Crc.leN (s.map UInt8.toNat) ^^^ Crc.leN (t.map UInt8.toNat) = m * 2 ^ f) : s = t := by
  obtain ⟨L1, -, -, hd1, -, -⟩ := encode_tidy n1 a1 r1 s h1
  obtain ⟨L2, -, -, hd2, -, -⟩ := encode_tidy n2 a2 r2 t h2
  refine Crc.sum_turned s t m f hn hm hf hx ?_
  have key : ∀ (n : List UInt8) (a : Nat) (L : List (List (List UInt8))), Crc.sum (packF n a L) = Crc.four (Crc.halves 32 Crc.start ^^^ Crc.start) := by
    intro n a L
    have := num_sealed (bodyF n a L)
    unfold packF
    rw [Crc.sum, this]
  rw [hd1, hd2, key, key]
end Go.Proofs.YtkaminplfnejhaaGreatDoor
