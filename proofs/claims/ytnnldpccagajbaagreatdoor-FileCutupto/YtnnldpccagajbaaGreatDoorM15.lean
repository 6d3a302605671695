import Derived.Test.YtnnldpccagajbaaGreatDoorM12
import Derived.Test.YtnnldpccagajbaaGreatDoorM14
/-
  C1, C2: rows in another order and more than once: the same answer. Nothing of the program.
-/
namespace Go.Proofs.YtnnldpccagajbaaGreatDoor
theorem bad_good (m : Nat) (i : Nat) (rows : List (List (List UInt8))) (h : ∀ r ∈ rows, r.length = m ∧ ∀ t ∈ r, t.length ≤ 200) : bad m i rows = none := by
  induction rows generalizing i with
  | nil => rfl
  | cons r rest ih =>
    have h1 := h r (by simp)
    rw [bad, if_pos h1.1, if_pos (by simpa using h1.2)]
    exact ih (i + 1) (fun x hx => h x (by simp [hx]))
theorem bad_not0 (m i : Nat) (rows : List (List (List UInt8))) (e j : Nat) (h : bad m i rows = some (e, j)) : e ≠ 0 := by
  induction rows generalizing i with
  | nil => simp [bad] at h
  | cons r rest ih =>
    rw [bad] at h
    split at h
    · split at h
      · exact ih (i + 1) h
      · cases h; decide
    · cases h; decide
/-- rows turned round, and then as they were -/
def twice (rows : List (List (List UInt8))) : List (List (List UInt8)) := rows.reverse ++ rows
theorem mem_twice (rows : List (List (List UInt8))) (r : List (List UInt8)) : r ∈ twice rows ↔ r ∈ rows := by simp [twice]
theorem sortU_twice (m : Nat) (rows : List (List (List UInt8))) (h : ∀ r ∈ rows, r.length = m) : sortU (twice rows) = sortU rows := by
  have h2 : ∀ r ∈ twice rows, r.length = m := fun r hr => h r ((mem_twice rows r).1 hr)
  exact rises_unique m _ _ (sortU_rises m _ h2) (sortU_rises m _ h) (fun x => by rw [mem_sortU m _ h2, mem_sortU m _ h, mem_twice])
theorem tidy_twice (name : List UInt8) (ar : Int) (rows : List (List (List UInt8))) : tidy name ar (twice rows) = tidy name ar rows ∨ ((tidy name ar rows).1 ≠ 0 ∧ (tidy name ar (twice rows)).1 ≠ 0) := by
  unfold tidy
  by_cases h1 : isName name = false
  · simp only [h1, if_true, true_or]
  · rw [if_neg h1, if_neg h1]
    by_cases h2 : ar < 0 ∨ 8 < ar
    · rw [if_pos h2, if_pos h2]; exact Or.inl rfl
    · rw [if_neg h2, if_neg h2]
      cases hb : bad ar.toNat 0 rows with
      | none =>
        have hg := bad_none _ _ _ hb
        rw [bad_good ar.toNat 0 (twice rows) (fun r hr => hg r ((mem_twice rows r).1 hr)), sortU_twice ar.toNat rows (fun r hr => (hg r hr).1)]
        exact Or.inl rfl
      | some p =>
        obtain ⟨e, i⟩ := p
        cases hb2 : bad ar.toNat 0 (twice rows) with
        | none =>
          have hg := bad_none _ _ _ hb2
          rw [bad_good ar.toNat 0 rows (fun r hr => hg r ((mem_twice rows r).2 hr))] at hb
          cases hb
        | some p2 =>
          obtain ⟨e2, i2⟩ := p2
          exact Or.inr ⟨bad_not0 _ _ _ _ _ hb, bad_not0 _ _ _ _ _ hb2⟩
theorem encode_err (name : List UInt8) (ar : Int) (rows : List (List (List UInt8))) (h : (tidy name ar rows).1 ≠ 0) : (encode name ar rows).2.1 ≠ 0 := by
  rw [encode_bad name ar rows _ _ _ rfl h]; exact h
theorem encode_twice (name : List UInt8) (ar : Int) (rows : List (List (List UInt8))) : encode name ar (twice rows) = encode name ar rows ∨ ((encode name ar rows).2.1 ≠ 0 ∧ (encode name ar (twice rows)).2.1 ≠ 0) := by
  rcases tidy_twice name ar rows with h | ⟨h1, h2⟩
  · left; unfold encode; rw [h]
  · exact Or.inr ⟨encode_err _ _ _ h1, encode_err _ _ _ h2⟩
end Go.Proofs.YtnnldpccagajbaaGreatDoor

/-
  C3 in plain words of lists: what Decode answers. Nothing of the program.
-/
namespace Go.Proofs.YtnnldpccagajbaaGreatDoor
/-- a page at the beginning of bytes: what it has and how many bytes it takes; or what is wrong with it -/
def pageOf (b : List UInt8) : Except Nat (List UInt8 × Nat) := match uv 0 0 b with
  | none => .error 4
  | some (n, k) => if b.length < k + n + 4 then .error 4 else if Crc.sum ((b.drop k).take n) = (b.drop (k + n)).take 4 then .ok ((b.drop k).take n, k + n + 4) else .error 5
/-- so many pages; or the first error and its page's place -/
def pagesN : Nat → Nat → List UInt8 → Except (Nat × Nat) (List (List UInt8))
  | 0, _, _ => .ok []
  | n + 1, a, b => match pageOf b with
    | .error e => .error (e, a)
    | .ok (s, m) => match pagesN n (a + m) (b.drop m) with
      | .error x => .error x
      | .ok l => .ok (s :: l)
/-- a first page: the name, the arity, the number of rows -/
def headOf (s : List UInt8) : Option (List UInt8 × Nat × Nat) := match uv 0 0 s with
  | none => none
  | some (n, k) => if s.length < k + n then none else match uv 0 0 (s.drop (k + n)) with
    | none => none
    | some (ar, k2) => if 8 < ar then none else match uv 0 0 (s.drop (k + n + k2)) with
      | none => none
      | some (m, k3) => if isName ((s.drop k).take n) = true ∧ k + n + k2 + k3 = s.length ∧ m ≤ 2000 then some ((s.drop k).take n, ar, m) else none
/-- how many columns a first page tells -/
def arOf (s : List UInt8) : Nat := match headOf s with
  | some (_, ar, _) => ar
  | none => 0
/-- the pages that are wanted -/
def splitF (b : List UInt8) : Except (Nat × Nat) (List (List UInt8)) := match pageOf (b.drop 4) with
  | .error e => .error (e, 4)
  | .ok (s, m) => match pagesN (1 + arOf s) (4 + m) (b.drop (4 + m)) with
    | .error x => .error x
    | .ok l => .ok (s :: l)
/-- rows with one column more, and what is left of its page -/
def fill (all : List (List UInt8)) : Int → List (List (List UInt8)) → List UInt8 → Option (List (List (List UInt8)) × List UInt8)
  | _, [], s => some ([], s)
  | last, r :: rest, s => match uv 0 0 s with
    | none => none
    | some (n, k) => if last + unfold n < 0 ∨ (all.length : Int) ≤ last + unfold n then none else
      match fill all (last + unfold n) rest (s.drop k) with
      | none => none
      | some (o, t) => some ((r ++ [all.getD (last + unfold n).toNat []]) :: o, t)
/-- all columns; strictly: nothing is left of their pages -/
def fillAll (strict : Bool) (all : List (List UInt8)) : List (List UInt8) → List (List (List UInt8)) → Option (List (List (List UInt8)))
  | [], rows => some rows
  | p :: ps, rows => match fill all 0 rows p with
    | none => none
    | some (o, t) => if strict = true ∧ t ≠ [] then none else fillAll strict all ps o
/-- the relation of pages -/
def related (strict : Bool) (pages : List (List UInt8)) : Option (List UInt8 × Nat × List (List (List UInt8))) := match pages with
  | p0 :: p1 :: cols => match headOf p0 with
    | none => none
    | some (name, ar, n) => match open_ p1 with
      | none => none
      | some all => match fillAll strict all cols (List.replicate n []) with
        | none => none
        | some rows => some (name, ar, rows)
  | _ => none
def sealed (d : List UInt8) : Prop := 8 ≤ d.length ∧ d.take 4 = [82, 69, 76, 49] ∧ Crc.sum (d.take (d.length - 4)) = d.drop (d.length - 4)
instance (d : List UInt8) : Decidable (sealed d) := by unfold sealed; infer_instance
/-- C3: an error and its place, and the relation -/
def decode (strict : Bool) (d : List UInt8) : Nat × Nat × List UInt8 × Nat × List (List (List UInt8)) :=
  if 65536 < d.length then (1, 0, [], 0, []) else if ¬ sealed d then (4, 0, [], 0, []) else
  match splitF (d.take (d.length - 4)) with
  | .error (e, a) => (e, a, [], 0, [])
  | .ok pages => match related strict pages with
    | none => (4, 0, [], 0, [])
    | some (name, ar, rows) => if encode name ar rows = (d, 0, 0) then (0, 0, name, ar, rows) else (4, 0, [], 0, [])
theorem pageOf_page (s rest : List UInt8) (h : s.length < 9223372036854775808) : pageOf (page s ++ rest) = .ok (s, (page s).length) := by
  unfold pageOf page
  rw [List.append_assoc, uv_back s.length h]
  have h4 : (Crc.sum s).length = 4 := rfl
  have hd : (vb s.length ++ (s ++ Crc.sum s ++ rest)).drop (vb s.length).length = s ++ Crc.sum s ++ rest := by simp
  simp only
  rw [← List.drop_drop, hd]
  have e1 : (s ++ Crc.sum s ++ rest).take s.length = s := by rw [List.append_assoc]; simp
  have e2 : ((s ++ Crc.sum s ++ rest).drop s.length).take 4 = Crc.sum s := by
    rw [List.append_assoc, List.drop_left, ← h4, List.take_left]
  rw [e1, e2, if_neg (by simp only [List.length_append]; omega), if_pos rfl]
  congr 1
  simp only [List.length_append, h4, Prod.mk.injEq, true_and]
  omega
theorem pagesN_pages (ps : List (List UInt8)) (a : Nat) (x : List UInt8) (h : ∀ p ∈ ps, p.length < 9223372036854775808) : pagesN ps.length a ((ps.map page).flatten ++ x) = .ok ps := by
  induction ps generalizing a with
  | nil => rfl
  | cons p ps ih =>
    rw [List.length_cons, pagesN, List.map_cons, List.flatten_cons, List.append_assoc, pageOf_page p _ (h p (by simp))]
    simp only
    rw [List.drop_left, ih _ (fun q hq => h q (by simp [hq]))]
theorem headOf_headT (name : List UInt8) (ar n : Nat) (h1 : isName name = true) (h2 : ar ≤ 8) (h3 : n ≤ 2000) : headOf (headT name ar n) = some (name, ar, n) := by
  have hl := isName_len name h1
  unfold headOf headT
  rw [uv_back name.length (by omega)]
  simp only
  have d1 : (vb name.length ++ (name ++ (vb ar ++ vb n))).drop (vb name.length).length = name ++ (vb ar ++ vb n) := by simp
  have d2 : (vb name.length ++ (name ++ (vb ar ++ vb n))).drop ((vb name.length).length + name.length) = vb ar ++ vb n := by rw [← List.drop_drop, d1]; simp
  have d3 : (vb name.length ++ (name ++ (vb ar ++ vb n))).drop ((vb name.length).length + name.length + (vb ar).length) = vb n := by rw [← List.drop_drop, d2]; simp
  have u3 := uv_back n (by omega) []
  rw [List.append_nil] at u3
  rw [d2, uv_back ar (by omega)]
  simp only
  rw [d3, u3, d1, if_neg (by simp only [List.length_append]; omega), if_neg (by omega)]
  simp only [List.take_left]
  rw [if_pos ⟨h1, by simp only [List.length_append]; omega, h3⟩]
theorem arOf_headT (name : List UInt8) (ar n : Nat) (h1 : isName name = true) (h2 : ar ≤ 8) (h3 : n ≤ 2000) : arOf (headT name ar n) = ar := by
  unfold arOf; rw [headOf_headT name ar n h1 h2 h3]
theorem find_in (all : List (List UInt8)) (t : List UInt8) (h : t ∈ all) : 0 ≤ find all t ∧ find all t < all.length ∧ all.getD (find all t).toNat [] = t := by
  unfold find
  cases hf : all.findIdx? (· == t) with
  | none =>
    rw [List.findIdx?_eq_none_iff] at hf
    have := hf t h
    simp at this
  | some k =>
    obtain ⟨hk, hv, -⟩ := List.findIdx?_eq_some_iff_getElem.1 hf
    refine ⟨by simp, by simpa using hk, ?_⟩
    have : all[k] = t := by simpa using hv
    simp [List.getD, hk, this]
theorem fill_colF (all : List (List UInt8)) (c : Nat) (R : List (List (List UInt8))) (last : Int) (x : List UInt8) (ha : all.length ≤ 1073741824) (h0 : 0 ≤ last) (h1 : last ≤ all.length)
    (hR : ∀ r ∈ R, c < r.length ∧ r.getD c [] ∈ all) : fill all last (R.map (·.take c)) (colF all c last R ++ x) = some (R.map (·.take (c + 1)), x) := by
  induction R generalizing last with
  | nil => rfl
  | cons r R ih =>
    obtain ⟨hc, hm⟩ := hR r (by simp)
    obtain ⟨f0, f1, f2⟩ := find_in all _ hm
    have hb := fold_bd (find all (r.getD c []) - last)
    have hu : unfold ((fold (find all (r.getD c []) - last)).toNat : Int) = find all (r.getD c []) - last := by
      rw [Int.toNat_of_nonneg hb.1, back _ (by omega) (by omega)]
    rw [List.map_cons, colF_cons, fill, List.append_assoc, uv_back _ (by omega)]
    simp only
    rw [hu, show last + (find all (r.getD c []) - last) = find all (r.getD c []) from by omega, if_neg (by omega), List.drop_left, ih _ f0 (by omega) (fun q hq => hR q (by simp [hq]))]
    simp only [List.map_cons, Option.some.injEq, Prod.mk.injEq, and_true, List.cons.injEq]
    rw [f2, List.take_succ_eq_append_getElem hc]
    simp [List.getD, hc]
theorem fillAll_cols (strict : Bool) (all : List (List UInt8)) (R : List (List (List UInt8))) (m : Nat) (ha : all.length ≤ 1073741824) (hR : ∀ r ∈ R, r.length = m ∧ ∀ t ∈ r, t ∈ all) (n c : Nat) (hn : c + n = m) :
    fillAll strict all ((List.range' c n).map fun c => colF all c 0 R) (R.map (·.take c)) = some R := by
  induction n generalizing c with
  | zero =>
    simp only [List.range'_zero, List.map_nil, fillAll]
    congr 1
    conv => rhs; rw [← List.map_id R]
    apply List.map_congr_left
    intro r hr
    have := (hR r hr).1
    simp [List.take_of_length_le (show r.length ≤ c from by omega)]
  | succ n ih =>
    rw [List.range'_succ, List.map_cons, fillAll]
    have hf := fill_colF all c R 0 [] ha (by omega) (by omega) (fun r hr => by
      have h1 := hR r hr
      have hc : c < r.length := by omega
      exact ⟨hc, h1.2 _ (by simp [List.getD, hc])⟩)
    rw [List.append_nil] at hf
    rw [hf]
    simp only
    rw [if_neg (by simp)]
    exact ih (c + 1) (by omega)
theorem less_of_ord (a b : List UInt8) (h : ordR [a] [b] = -1) : Op.bytesLess a b = true := by
  simp only [ordR] at h
  by_cases h1 : Op.bytesLess a b = true
  · exact h1
  · exfalso
    rw [if_neg h1] at h
    split at h <;> simp at h
theorem rises_good (L : List (List (List UInt8))) (h : Rises 1 L) (hl : ∀ r ∈ L, ∀ t ∈ r, t.length ≤ 200) (p : Option (List UInt8)) (hp : ∀ q, p = some q → ∀ r ∈ L, ordR [q] r = -1) : good p (L.map fun r => r.headD []) = true := by
  induction L generalizing p with
  | nil => rfl
  | cons r L ih =>
    have hr : r.length = 1 := h.1 r (by simp)
    obtain ⟨t, rfl⟩ : ∃ t, r = [t] := by
      match r, hr with
      | [t], _ => exact ⟨t, rfl⟩
    rw [List.map_cons, good]
    have h1 : t.length ≤ 200 := hl [t] (by simp) t (by simp)
    have h2 := ih (rises_tail h) (fun r hr => hl r (by simp [hr])) (some t) (fun q hq r hr => by cases hq; exact rises_head h r hr)
    have h3 : follows p t = true := by
      cases p with
      | none => rfl
      | some q => exact less_of_ord q t (hp q rfl [t] (by simp))
    rw [show ([t] : List (List UInt8)).headD [] = t from rfl, h2, h3]
    simp [h1]
theorem singles (l : List (List UInt8)) : ∀ r ∈ l.map (fun t => [t]), r.length = 1 := by
  intro r hr
  obtain ⟨t, -, rfl⟩ := List.mem_map.1 hr
  rfl
theorem mem_allT (L : List (List (List UInt8))) (t : List UInt8) : t ∈ allT L ↔ t ∈ L.flatten := by
  unfold allT
  rw [List.mem_map]
  constructor
  · rintro ⟨r, hr, rfl⟩
    rw [mem_sortU 1 _ (singles _)] at hr
    obtain ⟨u, hu, rfl⟩ := List.mem_map.1 hr
    exact hu
  · intro ht
    exact ⟨[t], (mem_sortU 1 _ (singles _) _).2 (List.mem_map.2 ⟨t, ht, rfl⟩), rfl⟩
theorem allT_good (L : List (List (List UInt8))) (h : ∀ r ∈ L, ∀ t ∈ r, t.length ≤ 200) : good none (allT L) = true := by
  unfold allT
  refine rises_good _ (sortU_rises 1 _ (singles _)) (fun r hr t ht => ?_) none (fun q hq => by cases hq)
  rw [mem_sortU 1 _ (singles _)] at hr
  obtain ⟨u, hu, rfl⟩ := List.mem_map.1 hr
  obtain ⟨r2, hr2, hu2⟩ := List.mem_flatten.1 hu
  simp only [List.mem_singleton] at ht
  subst ht
  exact h r2 hr2 t hu2
/-- the pages that Encode writes -/
def pagesOf (name : List UInt8) (ar : Nat) (L : List (List (List UInt8))) : List (List UInt8) := headT name ar L.length :: (build (allT L)).1 :: (List.range ar).map fun c => colF (allT L) c 0 L
theorem bodyF_pages (name : List UInt8) (ar : Nat) (L : List (List (List UInt8))) : bodyP name ar L = [82, 69, 76, 49] ++ ((pagesOf name ar L).map page).flatten := by
  unfold bodyP pagesOf colsF
  simp only [List.map_cons, List.flatten_cons, List.map_map]
  rfl
theorem pagesOf_len (name : List UInt8) (ar : Nat) (L : List (List (List UInt8))) (h : Tidy name ar L) : ∀ p ∈ pagesOf name ar L, p.length < 9223372036854775808 := by
  have hl := isName_len name h.isn
  have hf := h.few
  have ha := h.a8
  have hfl := flat_len ar L (fun r hr => by have := (h.rows r hr).1; simpa using this)
  have hfl2 : ar * L.length ≤ 8 * 2000 := Nat.mul_le_mul (by omega) hf
  have hal := allT_len L
  intro p hp
  unfold pagesOf at hp
  rcases List.mem_cons.1 hp with rfl | hp
  · unfold headT
    have h1 := vb_length9 name.length (by omega)
    have h2 := vb_length9 ar (by omega)
    have h3 := vb_length9 L.length (by omega)
    simp only [List.length_append]; omega
  · rcases List.mem_cons.1 hp with rfl | hp
    · have := build_len (allT L) (by omega)
      omega
    · obtain ⟨c, -, rfl⟩ := List.mem_map.1 hp
      have := colF_len (allT L) c 0 L
      omega
theorem splitF_pages (name : List UInt8) (ar : Nat) (L : List (List (List UInt8))) (h : Tidy name ar L) : splitF (bodyP name ar L) = .ok (pagesOf name ar L) := by
  have hl := pagesOf_len name ar L h
  have ha := h.a8
  rw [bodyF_pages]
  unfold splitF
  have d4 : ([82, 69, 76, 49] ++ ((pagesOf name ar L).map page).flatten).drop 4 = ((pagesOf name ar L).map page).flatten := rfl
  rw [d4]
  have hp : pagesOf name ar L = headT name ar L.length :: (pagesOf name ar L).tail := rfl
  have hm : ((pagesOf name ar L).map page).flatten = page (headT name ar L.length) ++ ((pagesOf name ar L).tail.map page).flatten := by rw [hp]; rfl
  have h2 := pageOf_page (headT name ar L.length) ((pagesOf name ar L).tail.map page).flatten (hl _ (by rw [hp]; simp))
  have d5 : ([82, 69, 76, 49] ++ ((pagesOf name ar L).map page).flatten).drop (4 + (page (headT name ar L.length)).length) = ((pagesOf name ar L).tail.map page).flatten := by
    rw [← List.drop_drop, d4, hm, List.drop_left]
  rw [hm, h2]
  simp only
  rw [← hm, arOf_headT name ar L.length h.isn (by omega) h.few, d5]
  have hn : 1 + ar = (pagesOf name ar L).tail.length := by unfold pagesOf; simp; omega
  have h3 := pagesN_pages (pagesOf name ar L).tail (4 + (page (headT name ar L.length)).length) [] (fun p hp2 => hl p (List.mem_of_mem_tail hp2))
  rw [List.append_nil] at h3
  rw [hn, h3]
  rfl
theorem related_pages (strict : Bool) (name : List UInt8) (ar : Nat) (L : List (List (List UInt8))) (h : Tidy name ar L) : related strict (pagesOf name ar L) = some (name, ar, L) := by
  have hf := h.few
  have ha := h.a8
  have hfl := flat_len ar L (fun r hr => by have := (h.rows r hr).1; simpa using this)
  have hfl2 : ar * L.length ≤ 8 * 2000 := Nat.mul_le_mul (by omega) hf
  have hal := allT_len L
  unfold related pagesOf
  simp only
  rw [headOf_headT name ar L.length h.isn (by omega) hf]
  simp only
  rw [open_build (allT L) (allT_good L (fun r hr => (h.rows r hr).2)) (by omega)]
  simp only
  have h0 : List.replicate L.length ([] : List (List UInt8)) = L.map (·.take 0) := by simp [List.map_const']
  rw [h0, List.range_eq_range', fillAll_cols strict (allT L) L ar (by omega) (fun r hr => ⟨by have := (h.rows r hr).1; simpa using this, fun t ht => (mem_allT L t).2 (List.mem_flatten.2 ⟨r, hr, ht⟩)⟩) ar 0 (by omega)]
theorem tidy_self (name : List UInt8) (ar : Int) (L : List (List (List UInt8))) (h : Tidy name ar L) : tidy name ar L = (0, 0, L) := by
  have h0 := h.a0
  have h8 := h.a8
  unfold tidy
  rw [if_neg (by rw [h.isn]; simp), if_neg (by omega), bad_good ar.toNat 0 L h.rows, sortU_self ar.toNat L h.rise]
  simp only
  rw [if_neg (by have := h.few; omega)]
theorem encode_tidy (name : List UInt8) (ar : Int) (rows : List (List (List UInt8))) (d : List UInt8) (h : encode name ar rows = (d, 0, 0)) : ∃ L, tidy name ar rows = (0, 0, L) ∧ Tidy name ar L ∧ d = packF name ar.toNat L ∧ d.length ≤ 65536 ∧ encode name ar L = (d, 0, 0) := by
  obtain ⟨te, ti, L, ht⟩ : ∃ te ti L, tidy name ar rows = (te, ti, L) := ⟨_, _, _, rfl⟩
  by_cases he : te = 0
  · subst he
    obtain ⟨rfl, -, hT⟩ := tidy_facts _ _ _ _ _ ht
    have h1 := encode_ok name ar rows 0 L ht
    have h2 := encode_ok name ar L 0 L (tidy_self name ar L hT)
    rw [h1] at h
    by_cases hb : 65536 < (packF name ar.toNat L).length
    · rw [if_pos hb] at h; simp at h
    · rw [if_neg hb] at h h2
      cases h
      exact ⟨L, ht, hT, rfl, by omega, h2⟩
  · rw [encode_bad _ _ _ _ _ _ ht he] at h
    cases h
    exact absurd rfl he
theorem sealed_pack (name : List UInt8) (ar : Nat) (L : List (List (List UInt8))) : sealed (packF name ar L) ∧ (packF name ar L).take ((packF name ar L).length - 4) = bodyP name ar L := by
  have h4 : (Crc.sum (bodyP name ar L)).length = 4 := rfl
  have hl : (packF name ar L).length - 4 = (bodyP name ar L).length := by unfold packF; rw [List.length_append, h4]; omega
  have ht : (packF name ar L).take ((packF name ar L).length - 4) = bodyP name ar L := by rw [hl]; unfold packF; rw [List.take_left]
  refine ⟨⟨?_, ?_, ?_⟩, ht⟩
  · unfold packF; rw [List.length_append, h4]; unfold bodyP; simp
  · unfold packF bodyP; rfl
  · rw [ht, hl]; unfold packF; rw [List.drop_left]
/-- C2, C3: what is packed is read as the tidy relation -/
theorem decode_encode (strict : Bool) (name : List UInt8) (ar : Int) (rows : List (List (List UInt8))) (d : List UInt8) (h : encode name ar rows = (d, 0, 0)) : ∃ L, tidy name ar rows = (0, 0, L) ∧ Tidy name ar L ∧ decode strict d = (0, 0, name, ar.toNat, L) := by
  obtain ⟨L, ht, hT, hd, hl, he⟩ := encode_tidy name ar rows d h
  refine ⟨L, ht, hT, ?_⟩
  have h0 := hT.a0
  obtain ⟨m, rfl⟩ := Int.eq_ofNat_of_zero_le h0
  rw [Int.toNat_natCast] at hd ⊢
  obtain ⟨hs, htk⟩ := sealed_pack name m L
  rw [← hd] at hs htk
  unfold decode
  rw [if_neg (by omega), if_neg (by simpa using hs), htk, splitF_pages name m L hT]
  simp only
  rw [related_pages strict name m L hT]
  simp only
  rw [if_pos he]
theorem fillAll_soft (all : List (List UInt8)) (ps : List (List UInt8)) (rows o : List (List (List UInt8))) (h : fillAll true all ps rows = some o) : fillAll false all ps rows = some o := by
  induction ps generalizing rows with
  | nil => exact h
  | cons p ps ih =>
    rw [fillAll] at h ⊢
    cases hf : fill all 0 rows p with
    | none => rw [hf] at h; simp at h
    | some q =>
      obtain ⟨x, t⟩ := q
      rw [hf] at h
      simp only at h ⊢
      split at h
      · simp at h
      · rw [if_neg (by simp)]; exact ih x h
theorem related_soft (pages : List (List UInt8)) (x : List UInt8 × Nat × List (List (List UInt8))) (h : related true pages = some x) : related false pages = some x := by
  unfold related at h ⊢
  match pages, h with
  | [], h => simp at h
  | [_], h => simp at h
  | p0 :: p1 :: cols, h =>
    simp only at h ⊢
    cases hh : headOf p0 with
    | none => rw [hh] at h; simp at h
    | some q =>
      obtain ⟨name, ar, n⟩ := q
      rw [hh] at h
      simp only at h ⊢
      cases ho : open_ p1 with
      | none => rw [ho] at h; simp at h
      | some all =>
        rw [ho] at h
        simp only at h ⊢
        cases hf : fillAll true all cols (List.replicate n []) with
        | none => rw [hf] at h; simp at h
        | some rows =>
          rw [hf] at h
          rw [fillAll_soft all cols _ rows hf]
          exact h
/-- whether bytes are left behind a column's page or not: what Encode does not write is not taken -/
theorem decode_soft (d : List UInt8) : decode false d = decode true d := by
  by_cases h1 : 65536 < d.length
  · unfold decode; rw [if_pos h1, if_pos h1]
  by_cases h2 : sealed d
  case neg => unfold decode; rw [if_neg h1, if_neg h1, if_pos h2, if_pos h2]
  cases h3 : splitF (d.take (d.length - 4)) with
  | error x => unfold decode; rw [if_neg h1, if_neg h1, if_neg (by simpa using h2), if_neg (by simpa using h2), h3]
  | ok pages =>
    cases h4 : related false pages with
    | none =>
      cases h5 : related true pages with
      | none => unfold decode; rw [if_neg h1, if_neg h1, if_neg (by simpa using h2), if_neg (by simpa using h2), h3]; simp only; rw [h4, h5]
      | some x => rw [related_soft pages x h5] at h4; cases h4
    | some x =>
      obtain ⟨name, ar, rows⟩ := x
      by_cases h6 : encode name ar rows = (d, 0, 0)
      · obtain ⟨L, -, -, hd1⟩ := decode_encode false name ar rows d h6
        obtain ⟨L2, -, -, hd2⟩ := decode_encode true name ar rows d h6
        have h7 : decode true d = (0, 0, name, ar, L2) := hd2
        cases h5 : related true pages with
        | none =>
          exfalso
          unfold decode at h7
          rw [if_neg h1, if_neg (by simpa using h2), h3] at h7
          simp only at h7
          rw [h5] at h7
          simp at h7
        | some y =>
          have h8 := related_soft pages y h5
          rw [h4] at h8
          cases h8
          unfold decode; rw [if_neg h1, if_neg h1, if_neg (by simpa using h2), if_neg (by simpa using h2), h3]; simp only; rw [h4, h5]
      · cases h5 : related true pages with
        | none =>
          unfold decode; rw [if_neg h1, if_neg h1, if_neg (by simpa using h2), if_neg (by simpa using h2), h3]; simp only; rw [h4, h5]; simp only; rw [if_neg h6]
        | some y =>
          have h8 := related_soft pages y h5
          rw [h4] at h8
          cases h8
          unfold decode; rw [if_neg h1, if_neg h1, if_neg (by simpa using h2), if_neg (by simpa using h2), h3]; simp only; rw [h4, h5]
/-- what is read is packed as it was -/
theorem encode_decode (strict : Bool) (d name : List UInt8) (a ar : Nat) (rows : List (List (List UInt8))) (h : decode strict d = (0, a, name, ar, rows)) : encode name ar rows = (d, 0, 0) := by
  unfold decode at h
  split at h
  · simp at h
  · split at h
    · simp at h
    · split at h
      · rename_i e b hs
        exfalso
        have key : ∀ (b : List UInt8) (e : Nat) , pageOf b = .error e → e ≠ 0 := by
          intro b e he
          unfold pageOf at he
          split at he
          · cases he; decide
          · split at he
            · cases he; decide
            · split at he
              · cases he
              · cases he; decide
        have key2 : ∀ (n a : Nat) (b : List UInt8) (e i : Nat), pagesN n a b = .error (e, i) → e ≠ 0 := by
          intro n
          induction n with
          | zero => intro a b e i he; simp [pagesN] at he
          | succ n ih =>
            intro a b e i he
            rw [pagesN] at he
            cases hp : pageOf b with
            | error x => rw [hp] at he; cases he; exact key _ _ hp
            | ok q =>
              obtain ⟨s, m⟩ := q
              rw [hp] at he
              simp only at he
              cases hq : pagesN n (a + m) (b.drop m) with
              | error y => rw [hq] at he; cases he; exact ih _ _ _ _ hq
              | ok l => rw [hq] at he; cases he
        have h0 : e = 0 := by cases h; rfl
        subst h0
        unfold splitF at hs
        split at hs
        · rename_i x hx; cases hs; exact key _ _ hx rfl
        · split at hs
          · rename_i y hy; cases hs; exact key2 _ _ _ _ _ hy rfl
          · cases hs
      · split at h
        · simp at h
        · split at h
          · rename_i he; cases h; exact he
          · simp at h
end Go.Proofs.YtnnldpccagajbaaGreatDoor
