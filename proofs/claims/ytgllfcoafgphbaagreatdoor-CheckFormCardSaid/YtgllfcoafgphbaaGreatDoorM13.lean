import Derived.Test.YtgllfcoafgphbaaGreatDoorM11
import Derived.Test.YtgllfcoafgphbaaGreatDoorM12
import Derived.Maps.RangeWalk
import Derived.Sort.KeysCollected
/-
  Chapter 5 in plain words of lists: two ways to find all names that one hangs on: name by name in the order of their finding (the document's), and deep first, in whatever order (the program's). Nothing of the program.
-/
namespace Go.Proofs.YtgllfcoafgphbaaGreatDoor
theorem nodup_length {α : Type} [DecidableEq α] : ∀ (l m : List α), l.Nodup → (∀ x ∈ l, x ∈ m) → l.length ≤ m.length
  | [], _, _, _ => Nat.zero_le _
  | a :: l, m, hn, hs => by
    have ha : a ∈ m := hs a List.mem_cons_self
    have h1 := List.nodup_cons.1 hn
    have := nodup_length l (m.erase a) h1.2 fun x hx => (List.mem_erase_of_ne (fun e : x = a => h1.1 (e ▸ hx))).2 (hs x (List.mem_cons_of_mem _ hx))
    have h2 := List.length_erase_of_mem ha
    have h3 : 0 < m.length := List.length_pos_of_mem ha
    simp only [List.length_cons]; omega
/-- one more, if it is new -/
def add1 (l : List (List UInt8)) (x : List UInt8) : List (List UInt8) := if x ∈ l then l else l ++ [x]
def adds (l : List (List UInt8)) (xs : List (List UInt8)) : List (List UInt8) := xs.foldl add1 l
/-- the names in the bodies of the rules with that head, in their order -/
def under (rs : List PRule) (now : List UInt8) : List (List UInt8) := (rs.filter (fun r => decide (r.head.name = now))).flatMap (fun r => (bodyAtoms r).map (·.atom.name))
theorem mem_add1 (l : List (List UInt8)) (x y : List UInt8) : y ∈ add1 l x ↔ y ∈ l ∨ y = x := by
  unfold add1
  split
  · rename_i h; exact ⟨.inl, fun h' => h'.elim id (fun e => e ▸ h)⟩
  · simp
theorem mem_adds : ∀ (xs l : List (List UInt8)) (y : List UInt8), y ∈ adds l xs ↔ y ∈ l ∨ y ∈ xs
  | [], l, y => by simp [adds]
  | x :: xs, l, y => by
    have := mem_adds xs (add1 l x) y
    simp only [adds, List.foldl_cons] at this ⊢
    rw [this, mem_add1, List.mem_cons, or_assoc]
theorem add1_nodup {l : List (List UInt8)} (h : l.Nodup) (x : List UInt8) : (add1 l x).Nodup := by
  unfold add1
  split
  · exact h
  · rename_i hx
    rw [List.nodup_append]
    exact ⟨h, by simp, fun a ha b hb => by rw [List.mem_singleton.1 hb]; exact fun e => hx (e ▸ ha)⟩
theorem adds_nodup : ∀ (xs l : List (List UInt8)), l.Nodup → (adds l xs).Nodup
  | [], _, h => h
  | x :: xs, l, h => adds_nodup xs (add1 l x) (add1_nodup h x)
theorem add1_pre (l : List (List UInt8)) (x : List UInt8) : ∃ t, add1 l x = l ++ t := by
  unfold add1
  split
  · exact ⟨[], (List.append_nil _).symm⟩
  · exact ⟨[x], rfl⟩
theorem adds_pre : ∀ (xs l : List (List UInt8)), ∃ t, adds l xs = l ++ t
  | [], l => ⟨[], (List.append_nil _).symm⟩
  | x :: xs, l => by
    obtain ⟨t, ht⟩ := add1_pre l x
    obtain ⟨u, hu⟩ := adds_pre xs (add1 l x)
    exact ⟨t ++ u, by simp only [adds, List.foldl_cons] at hu ⊢; rw [hu, ht, List.append_assoc]⟩
theorem mem_under (rs : List PRule) (a b : List UInt8) : b ∈ under rs a ↔ Edge rs a b := by
  simp only [under, bodyAtoms, List.mem_flatMap, List.mem_filter, List.mem_map, decide_eq_true_eq]
  constructor
  · rintro ⟨r, ⟨hr, ha⟩, p, ⟨hp, hk⟩, hb⟩; exact ⟨p.kind, hk, r, hr, ha, p, hp, rfl, hb⟩
  · rintro ⟨k, hk, r, hr, ha, p, hp, hpk, hb⟩; exact ⟨r, ⟨hr, ha⟩, p, ⟨hp, hpk ▸ hk⟩, hb⟩
/-- the document's search: j names were looked at (the first is the name itself) -/
structure BInv (rs : List PRule) (name : List UInt8) (j : Nat) (l : List (List UInt8)) : Prop where
  nodup : l.Nodup
  hang : ∀ x ∈ l, Hangs rs name x
  one : 0 < j → ∀ y, Edge rs name y → y ∈ l
  rest : ∀ (i : Nat) (x : List UInt8), i + 1 < j → l[i]? = some x → ∀ y, Edge rs x y → y ∈ l
theorem BInv.start (rs : List PRule) (name : List UInt8) : BInv rs name 0 [] := ⟨List.nodup_nil, fun _ h => absurd h List.not_mem_nil, fun h => absurd h (by omega), fun i x h => absurd h (by omega)⟩
theorem BInv.first {rs : List PRule} {name : List UInt8} (h : BInv rs name 0 []) : BInv rs name 1 (adds [] (under rs name)) := by
  refine ⟨adds_nodup _ _ h.nodup, fun x hx => ?_, fun _ y hy => (mem_adds _ _ _).2 (.inr ((mem_under rs name y).2 hy)), fun i x hi => absurd hi (by omega)⟩
  rcases (mem_adds _ _ _).1 hx with hx | hx
  · exact absurd hx List.not_mem_nil
  · exact .one ((mem_under rs name x).1 hx)
theorem BInv.next {rs : List PRule} {name : List UInt8} {j : Nat} {l : List (List UInt8)} {now : List UInt8} (h : BInv rs name (j + 1) l) (hn : l[j]? = some now) : BInv rs name (j + 2) (adds l (under rs now)) := by
  obtain ⟨t, ht⟩ := adds_pre (under rs now) l
  have hj : j < l.length := (List.getElem?_eq_some_iff.1 hn).1
  have hnow : Hangs rs name now := h.hang now (List.mem_of_getElem? hn)
  refine ⟨adds_nodup _ _ h.nodup, fun x hx => ?_, fun _ y hy => (mem_adds _ _ _).2 (.inl (h.one (by omega) y hy)), fun i x hi hx y hy => ?_⟩
  · rcases (mem_adds _ _ _).1 hx with hx | hx
    · exact h.hang x hx
    · exact hnow.snoc ((mem_under rs now x).1 hx)
  · rw [ht, List.getElem?_append_left (by omega)] at hx
    by_cases hij : i = j
    · subst hij
      rw [hn] at hx
      obtain rfl := Option.some.inj hx
      exact (mem_adds _ _ _).2 (.inr ((mem_under rs now y).2 hy))
    · exact (mem_adds _ _ _).2 (.inl (h.rest i x (by omega) hx y hy))
theorem BInv.done {rs : List PRule} {name : List UInt8} {l : List (List UInt8)} (h : BInv rs name (l.length + 1) l) (x : List UInt8) : x ∈ l ↔ Hangs rs name x := by
  refine hangs_iff (F := fun x => x ∈ l) h.hang (h.one (by omega)) (fun x y hx hy => ?_) x
  obtain ⟨i, hi, he⟩ := List.getElem_of_mem hx
  exact h.rest i x (by omega) (List.getElem?_eq_some_iff.2 ⟨hi, he⟩) y hy
theorem hangs_bodyNames {rs : List PRule} {a b : List UInt8} (h : Hangs rs a b) : b ∈ bodyNames rs := by
  induction h with
  | one e => obtain ⟨k, _, e⟩ := e; exact edge_bodyNames e
  | more _ _ ih => exact ih
theorem BInv.bound {rs : List PRule} {name : List UInt8} {j : Nat} {l : List (List UInt8)} (h : BInv rs name j l) : l.length ≤ (bodyNames rs).length := nodup_length l _ h.nodup fun x hx => hangs_bodyNames (h.hang x hx)
/-- the program's search: from what was found (F) to what is (G), a name's bodies gone through as far as D -/
structure Follows (rs : List PRule) (name : List UInt8) (F D G : List UInt8 → Prop) : Prop where
  keep : ∀ x, F x → G x
  hang : ∀ x, G x → F x ∨ Hangs rs name x
  did : ∀ x, D x → G x
  deep : ∀ x y, G x → ¬ F x → Edge rs x y → G y
theorem Follows.start (rs : List PRule) (name : List UInt8) (F : List UInt8 → Prop) : Follows rs name F (fun _ => False) F := ⟨fun _ h => h, fun _ h => .inl h, fun _ h => h.elim, fun _ _ h hn => absurd h hn⟩
theorem Follows.old {rs : List PRule} {name : List UInt8} {F D G : List UInt8 → Prop} (h : Follows rs name F D G) {o : List UInt8} (ho : G o) : Follows rs name F (fun x => D x ∨ x = o) G := ⟨h.keep, h.hang, fun _ hx => hx.elim (h.did _) (fun e => e ▸ ho), h.deep⟩
theorem Follows.new {rs : List PRule} {name : List UInt8} {F D G H : List UInt8 → Prop} (h : Follows rs name F D G) {o : List UInt8} (he : Edge rs name o) (k : Follows rs o (fun x => G x ∨ x = o) (Edge rs o) H) : Follows rs name F (fun x => D x ∨ x = o) H := by
  refine ⟨fun x hx => k.keep x (.inl (h.keep x hx)), fun x hx => ?_, fun x hx => hx.elim (fun hx => k.keep x (.inl (h.did x hx))) (fun e => k.keep x (.inr e)), fun x y hx hn hy => ?_⟩
  · rcases k.hang x hx with (hg | rfl) | hh
    · exact h.hang x hg
    · exact .inr (.one he)
    · exact .inr (.more he hh)
  · by_cases hg : G x
    · exact k.keep y (.inl (h.deep x y hg hn hy))
    · by_cases ho : x = o
      · subst ho; exact k.did y hy
      · exact k.deep x y hx (fun h' => h'.elim hg ho) hy
theorem Follows.done {rs : List PRule} {name : List UInt8} {G : List UInt8 → Prop} (h : Follows rs name (fun _ => False) (Edge rs name) G) (x : List UInt8) : G x ↔ Hangs rs name x :=
  hangs_iff (fun x hx => (h.hang x hx).elim False.elim id) h.did (fun x y hx => h.deep x y hx id) x
theorem Follows.whole {rs : List PRule} {name : List UInt8} {F D E G : List UInt8 → Prop} (h : Follows rs name F D G) (hd : ∀ x, E x → D x) : Follows rs name F E G := ⟨h.keep, h.hang, fun x hx => h.did x (hd x hx), h.deep⟩
open Classical in
/-- how many names are yet to be found -/
noncomputable def toFind (rs : List PRule) (F : List UInt8 → Prop) : Nat := ((bodyNames rs).filter (fun x => !decide (F x))).length
open Classical in
theorem toFind_less {rs : List PRule} {F G : List UInt8 → Prop} {a o : List UInt8} (he : Edge rs a o) (ho : ¬ F o) (hfg : ∀ x, F x → G x) (hg : G o) : toFind rs G < toFind rs F := by
  obtain ⟨k, _, e⟩ := he
  exact filter_length_lt (fun x hx => by simp only [Bool.not_eq_true', decide_eq_false_iff_not] at hx ⊢; exact fun h => hx (hfg x h)) _ o (edge_bodyNames e) (by simp [ho]) (by simp [hg])
open Classical in
theorem toFind_le {rs : List PRule} {F G : List UInt8 → Prop} (hfg : ∀ x, F x → G x) : toFind rs G ≤ toFind rs F :=
  filter_length_le (fun x hx => by simp only [Bool.not_eq_true', decide_eq_false_iff_not] at hx ⊢; exact fun h => hx (hfg x h)) _
end Go.Proofs.YtgllfcoafgphbaaGreatDoor

/-
  A map of sets, as it lies: of each head's name the names that it hangs on.
-/
namespace Go.Proofs.YtgllfcoafgphbaaGreatDoor
open Go.ChangeShapes Go.WideShapes Go.ChangeAt Go.RowKit Go.Hands Go.WideMaps Go.Maps
set_option linter.unusedVariables false
/-- an element is read as itself -/
def heldV (v : Value) : Option (DataW Value × List MemPlace) := some (.held v, [])
theorem heldV_inv {v : Value} {d : DataW Value} {ps : List MemPlace} (h : heldV v = some (d, ps)) : d = .held v := by
  unfold heldV at h; cases h; rfl
theorem zeroN (w : World) : (zeroValue 165).run Tryz.prog w = .ok (.map none) w := by kernel_rfl
theorem mapAtH {H : Type} {P : Program} {k : TypeId} {R : Value → Option (DataW H × List MemPlace)} {b n : Nat} {D : DataW H} {w W : World} (h : w.ownsMap P k R b n D) (hk : W.heap[b]? = w.heap[b]?) : W.ownsMap P k R b n D := by
  obtain ⟨es, clock, hb, r⟩ := h
  exact ⟨es, clock, hk.trans hb, r⟩
theorem keyS (n : List UInt8) (h : n.length ≤ 1000000) : keyOf Tryz.prog 9 (.string (str n)) = some (.string n) := by
  have := keyOf_string_mk Tryz.underlying9 (s := str n) (by rw [str_size]; unfold maxLen; omega)
  rw [data_str] at this; exact this
/-- a list in the place of another -/
def setS (S : List UInt8 → List (List UInt8)) (k : List UInt8) (l : List (List UInt8)) : List UInt8 → List (List UInt8) := fun q => if q = k then l else S q
theorem setS_same (S : List UInt8 → List (List UInt8)) (k : List UInt8) (l : List (List UInt8)) : setS S k l k = l := by simp [setS]
theorem setS_other (S : List UInt8 → List (List UInt8)) {k q : List UInt8} (l : List (List UInt8)) (h : q ≠ k) : setS S k l q = S q := by simp [setS, h]
theorem setS_twice (S : List UInt8 → List (List UInt8)) (k : List UInt8) (l m : List (List UInt8)) : setS (setS S k l) k m = setS S k m := by
  funext q; by_cases h : q = k <;> simp [setS, h]
theorem setS_self (S : List UInt8 → List (List UInt8)) (k : List UInt8) : setS S k (S k) = S := by
  funext q; by_cases h : q = k <;> simp [setS, h]
/-- a map of sets: of the names H; each set lies by itself -/
structure Hang (w : World) (b nn : Nat) (D : DataW Value) (H : List UInt8 → Bool) (S : List UInt8 → List (List UInt8)) (bf : List UInt8 → Nat) : Prop where
  own : w.ownsMap Tryz.prog 9 heldV b nn D
  has : ∀ k, Maps.has D (.string k) = H k
  yes : ∀ k, H k = true → D.atKey (.string k) (.held (.map none)) = .held (.map (some (bf k)))
  sets : ∀ k, H k = true → w.ownsMap Tryz.prog 9 (unitElem (H := Unit)) (bf k) (S k).length (setU (S k))
  apart : ∀ k k', H k = true → H k' = true → bf k = bf k' → k = k'
  far : ∀ k, H k = true → bf k ≠ b
section
variable {w W : World} {b nn : Nat} {D : DataW Value} {H : List UInt8 → Bool} {S : List UInt8 → List (List UInt8)} {bf : List UInt8 → Nat}
theorem Hang.start (S : List UInt8 → List (List UInt8)) (bf : List UInt8 → Nat) (h : w.ownsMap Tryz.prog 9 heldV b 0 (.map [])) : Hang w b 0 (.map []) (fun _ => false) S bf :=
  ⟨h, fun k => rfl, fun k h => by simp at h, fun k h => by simp at h, fun k k' h => by simp at h, fun k h => by simp at h⟩
theorem Hang.at_ (h : Hang w b nn D H S bf) (hb : W.heap[b]? = w.heap[b]?) (hs : ∀ k, H k = true → W.heap[bf k]? = w.heap[bf k]?) : Hang W b nn D H S bf :=
  ⟨mapAtH h.own hb, h.has, h.yes, fun k hk => mapAtH (h.sets k hk) (hs k hk), h.apart, h.far⟩
theorem Hang.lt (h : Hang w b nn D H S bf) : b < w.heap.size := h.own.lt
theorem Hang.lts (h : Hang w b nn D H S bf) {k : List UInt8} (hk : H k = true) : bf k < w.heap.size := (h.sets k hk).lt
theorem Hang.rnd {M : Nat → Prop} (h : Hang w b nn D H S bf) (hr : Rnd M w W) (hb : ¬ M b) (hs : ∀ k, H k = true → ¬ M (bf k)) : Hang W b nn D H S bf :=
  h.at_ (hr.block _ h.lt hb) (fun k hk => hr.block _ (h.lts hk) (hs k hk))
set_option maxRecDepth 100000 in
theorem Hang.look (h : Hang w b nn D H S bf) (hb : W.heap[b]? = w.heap[b]?) (k : List UInt8) {s : ByteArray} (hk : keyOf Tryz.prog 9 (.string s) = some (.string k)) :
    (Instr.lookup 126 (.map (some b)) (.string s) false).run Tryz.prog W = .ok (.map (if H k = true then some (bf k) else none)) W := by
  obtain ⟨v, ps, hrun, hv⟩ := (mapAtH h.own hb).lookup keyedS Tryz.underlying126 (zeroN W) (zd := .held (.map none)) (zp := []) rfl hk
  have e := heldV_inv hv
  by_cases hh : H k = true
  · rw [h.yes k hh] at e
    injection e with e
    rw [if_pos hh, hrun, e]
  · have hf : Maps.has D (.string k) = false := by rw [h.has]; simpa using hh
    rw [atKey_of_not_has hf] at e
    injection e with e
    rw [if_neg hh, hrun, e]
/-- a new name, of nothing yet -/
theorem Hang.new {nn' b0 : Nat} {k0 : List UInt8} (h : Hang w b nn D H S bf) (hk : H k0 = false) (hS : S k0 = []) (hr : Rnd (fun k => k = b) w W) (hown : W.ownsMap Tryz.prog 9 heldV b nn' (D.put (.string k0) (.held (.map (some b0)))))
    (h0 : W.ownsMap Tryz.prog 9 (unitElem (H := Unit)) b0 0 (.map [])) (hb0 : b0 ≠ b) (hfr : ∀ k, H k = true → bf k ≠ b0) : Hang W b nn' (D.put (.string k0) (.held (.map (some b0)))) (fun k => H k || k == k0) S (fun k => if k = k0 then b0 else bf k) := by
  have hne : ∀ k, H k = true → k ≠ k0 := fun k hk1 e => by rw [e, hk] at hk1; cases hk1
  refine ⟨hown, fun k => ?_, fun k hk1 => ?_, fun k hk1 => ?_, fun k k' h1 h2 e => ?_, fun k hk1 => ?_⟩
  · by_cases e : k = k0
    · subst e; rw [has_put_same h.own.isMap (by simp [WideAt.IsKeyLit])]; simp
    · rw [has_put_other (by intro e2; injection e2 with e3; exact e e3), h.has]; simp [e]
  · by_cases e : k = k0
    · subst e; rw [atKey_put_same h.own.isMap (by simp [WideAt.IsKeyLit])]; simp
    · rw [atKey_put_other (by intro e2; injection e2 with e3; exact e e3), if_neg e]
      exact h.yes k (by simpa [e] using hk1)
  · by_cases e : k = k0
    · subst e; simp only [if_true]; rw [hS]; exact h0
    · simp only [if_neg e]
      have hk2 : H k = true := by simpa [e] using hk1
      exact mapAtH (h.sets k hk2) (hr.block _ (h.lts hk2) (h.far k hk2))
  · by_cases e1 : k = k0
    · by_cases e2 : k' = k0
      · rw [e1, e2]
      · have h3 : H k' = true := by simpa [e2] using h2
        simp only [e1, if_true, if_neg e2] at e
        exact absurd e.symm (hfr k' h3)
    · have h3 : H k = true := by simpa [e1] using h1
      by_cases e2 : k' = k0
      · simp only [e2, if_true, if_neg e1] at e
        exact absurd e (hfr k h3)
      · have h4 : H k' = true := by simpa [e2] using h2
        simp only [if_neg e1, if_neg e2] at e
        exact h.apart k k' h3 h4 e
  · by_cases e : k = k0
    · simp only [e, if_true]; exact hb0
    · simp only [if_neg e]; exact h.far k (by simpa [e] using hk1)
/-- a name's set has grown -/
theorem Hang.set {k0 : List UInt8} {l : List (List UInt8)} (h : Hang w b nn D H S bf) (hk : H k0 = true) (hr : Rnd (fun k => k = bf k0) w W) (h0 : W.ownsMap Tryz.prog 9 (unitElem (H := Unit)) (bf k0) l.length (setU l)) : Hang W b nn D H (setS S k0 l) bf := by
  refine ⟨mapAtH h.own (hr.block _ h.lt (fun e => h.far k0 hk e.symm)), h.has, h.yes, fun k hk1 => ?_, h.apart, h.far⟩
  by_cases e : k = k0
  · subst e; rw [setS_same]; exact h0
  · rw [setS_other _ _ e]; exact mapAtH (h.sets k hk1) (hr.block _ (h.lts hk1) (fun e2 => e (h.apart k k0 hk1 hk e2)))
end
/-- the names of heads -/
def headsX (rs : List PRule) (k : List UInt8) : Bool := rs.any (fun r => r.head.name == k)
theorem headsX_next (rs : List PRule) (k : Nat) (h : k < rs.length) (q : List UInt8) : headsX (rs.take (k + 1)) q = (headsX (rs.take k) q || q == rs[k].head.name) := by
  unfold headsX
  rw [List.take_succ_eq_append_getElem h, List.any_append]
  congr 1
  simp [Bool.beq_comm]
theorem under_none {rs : List PRule} {k : List UInt8} (h : headsX rs k = false) : under rs k = [] := by
  unfold under
  have : rs.filter (fun r => decide (r.head.name = k)) = [] := by
    rw [List.filter_eq_nil_iff]
    intro r hr hd
    have h2 := List.any_eq_false.1 h r hr
    simp at hd h2; exact h2 hd
  rw [this]; rfl
theorem under_next (rs : List PRule) (k : Nat) (h : k < rs.length) : under (rs.take (k + 1)) = setS (under (rs.take k)) rs[k].head.name (under (rs.take k) rs[k].head.name ++ (bodyAtoms rs[k]).map (·.atom.name)) := by
  funext q
  unfold under setS
  rw [List.take_succ_eq_append_getElem h, List.filter_append, List.flatMap_append]
  by_cases e : q = rs[k].head.name
  · rw [if_pos e, e]; simp
  · rw [if_neg e]
    have e2 : ¬ rs[k].head.name = q := fun e2 => e e2.symm
    simp [e2]
theorem bodyX_names : ∀ (ps : List PPart) (vs : List Value), vs.length = ps.length → (bodyX ps vs).map (·.name) = (ps.filter (fun p => decide (p.kind < 2))).map (·.atom.name)
  | [], vs, _ => by simp [bodyX]
  | p :: ps, [], h => by simp at h
  | p :: ps, v :: vs, h => by
    have ih := bodyX_names ps vs (by simpa using h)
    unfold bodyX at ih ⊢
    rw [List.zip_cons_cons, List.filter_cons, List.filter_cons]
    by_cases hk : (p.kind == 0 || p.kind == 1) = true
    · have hk2 : p.kind < 2 := by simp at hk; omega
      rw [if_pos (by exact hk), if_pos (by simpa using hk2), List.map_cons, List.map_cons, List.map_cons, ih]; rfl
    · have hk2 : ¬ p.kind < 2 := by simp at hk; omega
      rw [if_neg (by exact hk), if_neg (by simpa using hk2), ih]
end Go.Proofs.YtgllfcoafgphbaaGreatDoor

/-
  The program's hangings.follow, walked: ranges over sets, in whatever order, and itself within.
-/
namespace Go.Proofs.YtgllfcoafgphbaaGreatDoor
open Go.ChangeShapes Go.WideShapes Go.ChangeAt Go.RowKit Go.Hands Go.WideMaps Go.Maps
set_option linter.unusedVariables false
theorem keyS_inv {key : Value} {kl : Lit} (h : keyOf Tryz.prog 9 key = some kl) : ∃ x, key = .string (str x) ∧ kl = .string x := by
  obtain ⟨x, hx, hk, _⟩ := Maps.keyOf_str Tryz.underlying9 h
  exact ⟨x, hx, hk⟩
theorem unitE_inv (v : Value) (y : DataW Unit × List MemPlace) (h : unitElem v = some y) : ∃ c : Unit, v = (fun _ : Unit => Value.agg #[]) c := ⟨(), (unitElem_inv h).1⟩
theorem Rnd.past {M : Nat → Prop} {A B C : World} {r : Nat} (h : Rnd M A B) (hg : B.grownBy C (some r)) (hr : A.heap.size ≤ r) : Rnd M A C :=
  ⟨hg.os.trans h.os, hg.tape.trans h.tape, hg.output.trans h.output, Nat.le_trans h.size hg.size, fun k hk hm => (hg.block k (Nat.lt_of_lt_of_le hk h.size) (fun e => by have := Option.some.inj e; omega)).trans (h.block k hk hm)⟩
/-- what was found, as the walk keeps it -/
structure Found (rs : List PRule) (f : Nat) (l : List (List UInt8)) (w : World) : Prop where
  own : w.ownsMap Tryz.prog 9 (unitElem (H := Unit)) f l.length (setU l)
  nodup : l.Nodup
  sub : ∀ x ∈ l, x ∈ bodyNames rs
theorem Found.len {rs : List PRule} {f : Nat} {l : List (List UInt8)} {w : World} (h : Found rs f l w) : l.length ≤ (bodyNames rs).length := nodup_length l _ h.nodup h.sub
theorem Found.at_ {rs : List PRule} {f : Nat} {l : List (List UInt8)} {w W : World} (h : Found rs f l w) (hk : W.heap[f]? = w.heap[f]?) : Found rs f l W := ⟨mapAt h.own hk, h.nodup, h.sub⟩
set_option maxRecDepth 100000 in
set_option maxHeartbeats 4000000 in
theorem follow_any (rs : List PRule) (b nn : Nat) (D : DataW Value) (H : List UInt8 → Bool) (bf : List UInt8 → Nat) (f : Nat) (hB : (bodyNames rs).length ≤ 1000000) (hnm : ∀ x ∈ bodyNames rs, x.length ≤ 1000000) (hH : ∀ k, H k = false → under rs k = []) (hfb : f ≠ b) (hff : ∀ k, H k = true → bf k ≠ f) :
    ∀ (m : Nat) (name : List UInt8) (l : List (List UInt8)) (w : World), toFind rs (· ∈ l) = m → Hang w b nn D H (under rs) bf → name.length ≤ 1000000 → Found rs f l w →
    Calls Tryz.prog 95 #[.map (some b), .string (str name), .map (some f)] w fun e w' => e = .returned (.tuple #[]) ∧ (∃ l', Found rs f l' w' ∧ Follows rs name (· ∈ l) (Edge rs name) (· ∈ l')) ∧ Rnd (fun k => k = f) w w' := by
  intro m
  induction m using Nat.strongRecOn with
  | ind m IH =>
  intro name l w hm hh hn hF
  have HIH := hide IH
  have HM := hide hm
  have HHG := hide hh
  have HF := hide hF
  have HNM := hide hnm
  have HHH := hide hH
  have HFF := hide hff
  have hkn := keyS name hn
  have hlk := hh.look (W := w) rfl name hkn
  have HEM : Hid (∀ x, x ∈ under rs name ↔ Edge rs name x) := fun x => mem_under rs name x
  obtain ⟨sn, HSN⟩ : ∃ sn, Hid (sn = str name) := ⟨_, rfl⟩
  rw [← HSN.out] at hlk
  rw [← HSN.out]
  clear IH hm hnm hH hff hkn
  by_cases hHn : H name = true
  · rw [if_pos hHn] at hlk
    have hset := hh.sets name hHn
    have hbf := HFF.out name hHn
    have hbl := hh.lts hHn
    have hfl := hF.own.lt
    obtain ⟨B, HBE⟩ : ∃ B, Hid (B = bf name) := ⟨_, rfl⟩
    rw [← HBE.out] at hlk hset hbf hbl
    obtain ⟨S, HSE⟩ : ∃ S, Hid (S = under rs name) := ⟨_, rfl⟩
    rw [← HSE.out] at hset HEM
    clear hh hF
    go_enter Tryz.func95, Tryz.ntmps95
    go_wp2_with (first
      | (at_range; refine wpList_range_own _ rfl _ 165 rfl 9 123 keyedS Tryz.underlying165 _ B S.length _ rfl hset ?_; intro w0 hrg0 hg0 hs0)
      | go_in)
    have HR0 : Hid (Rnd (fun k => k = f) w w0) := Rnd.grown hg0 (fun k e => by cases e)
    have HF0 : Hid (Found rs f l w0) := HF.out.at_ (hg0.block f hfl (by simp))
    have HRG0 := hide hrg0
    clear hrg0 hg0
    go_loopw [6] (fun _ wr => ∃ (left : Lit → Bool) (cnt : Nat) (l2 : List (List UInt8)), Hid (wr.ranges Tryz.prog 9 (unitElem (H := Unit)) B w.heap.size S.length (setU S) left cnt) ∧ Hid (Found rs f l2 wr) ∧ Hid (Follows rs name (· ∈ l) (fun x => x ∈ S ∧ left (.string x) = false) (· ∈ l2)) ∧ Hid (Rnd (fun k => k = f) w wr)) (fun _ wr => wr.rangeLeft B w.heap.size)
    case atStart =>
      refine ⟨_, _, l, HRG0, HF0, ?_, HR0⟩
      refine (Follows.start rs name (· ∈ l)).whole (fun x hx => ?_)
      have := hx.2
      rw [setU_has] at this
      exact absurd hx.1 (by simpa using this)
    case round =>
      obtain ⟨left, cnt, l2, HRG, HF2, HFO, HRW⟩ := hrel
      have hrg := HRG.out
      go_wp2_with (first
        | (at_next; refine wpList_next_ranges _ rfl _ rfl 9 keyedS (unitElem (H := Unit)) (fun l : List UInt8 => Value.string (str l)) (fun _ : Unit => Value.agg #[]) (fun key kl hk => by obtain ⟨x, hx, _⟩ := keyS_inv hk; exact ⟨x, hx⟩) unitE_inv B w.heap.size S.length _ _ _ rfl hrg ?_ ?_)
        | go_in)
      · intro hc0 hl0
        go_wp2
        go_end0
        exact ⟨rfl, ⟨l2, HF2.out, HFO.out.whole (fun x hx => ⟨(HEM.out x).2 hx, hl0 _⟩)⟩, HRW.out⟩
      · intro x c kl y w1 cnt1 hkey hlk1 hv hat hrg1 hlt hg1 hs1 hen
        obtain ⟨x', ex, rfl⟩ := keyS_inv hkey
        obtain rfl : x = x' := str_inj.1 (by injection ex)
        have hxS : x ∈ S := by
          have h1 := has_true_of_atKey hat
          rw [setU_has] at h1; simpa using h1
        have HXE : Hid (Edge rs name x) := (HEM.out x).1 hxS
        have hxb : x ∈ bodyNames rs := by obtain ⟨k, _, e⟩ := HXE.out; exact edge_bodyNames e
        have hxl := HNM.out x hxb
        have hfw : f < wr.heap.size := HF2.out.own.lt
        have HF3 : Hid (Found rs f l2 w1) := HF2.out.at_ (hg1.block f hfw (fun e => by have := Option.some.inj e; omega))
        have HR3 : Hid (Rnd (fun k => k = f) w w1) := Rnd.past HRW.out hg1 (Nat.le_refl _)
        have HRG1 := hide hrg1
        have hll : l2.length ≤ 1000000 := Nat.le_trans HF3.out.len hB
        have hkx := keyS x hxl
        have hhas : Maps.has (setU l2) (.string x) = decide (x ∈ l2) := setU_has l2 x
        obtain ⟨sx, HSX⟩ : ∃ sx, Hid (sx = str x) := ⟨_, rfl⟩
        rw [← HSX.out] at hkx hen
        rw [← HSX.out]
        obtain ⟨wb, HWB⟩ : ∃ wb, Hid (wb = w1.alloc (.cells #[] 123)) := ⟨_, rfl⟩
        have hwb := HWB.out.symm
        have HRB : Hid (Rnd (fun _ => False) w1 wb) := by rw [HWB.out]; exact (Rnd.refl _ _).alloc _
        have HFb : Hid (Found rs f l2 wb) := HF3.out.at_ (HRB.out.block f HF3.out.own.lt (fun h => h))
        have HRGb : Hid (wb.ranges Tryz.prog 9 (unitElem (H := Unit)) B w.heap.size S.length (setU S) (fun z => left z && !z.sameKey (.string x)) cnt1) := by rw [HWB.out]; exact hrg1.alloc _
        have HRb : Hid (Rnd (fun k => k = f) w wb) := HR3.out.trans (HRB.out.mono (fun _ h => h.elim))
        have hown1 := HF3.out.own
        have hownb := HFb.out.own
        clear hkey hat hv hrg1 hs1 hg1 hrg hxb ex
        by_cases hin : x ∈ l2
        · have HFO2 : Hid (Follows rs name (· ∈ l) (fun z => z ∈ S ∧ (left (.string z) && !(Lit.string z).sameKey (.string x)) = false) (· ∈ l2)) := (HFO.out.old hin).whole (fun z hz => by
            by_cases e : z = x
            · exact .inr e
            · refine .inl ⟨hz.1, ?_⟩
              have h2 := hz.2
              rw [sameKey_ne (fun e2 => e (by injection e2))] at h2
              simpa using h2)
          rw [show decide (x ∈ l2) = true by simpa using hin] at hhas
          go_wp2_with (first
            | (at_lookup; refine wpList_lookup_own_unit _ rfl _ _ 165 rfl 9 123 keyedS Tryz.underlying165 (zeroU _) f l2.length _ rfl hown1 _ _ rfl hkx ?_; rw [hhas])
            | fail)
          exact ⟨⟨_, cnt1, l2, HRGb, HFb, HFO2, HRb⟩, by rw [HRGb.out.left_eq, HRG.out.left_eq]; exact hlt⟩
        · rw [show decide (x ∈ l2) = false by simpa using hin] at hhas
          have HLT : Hid (toFind rs (· ∈ l2 ++ [x]) < m) := by
            rw [← HM.out]
            refine toFind_less HXE.out (fun h => hin (HFO.out.keep x h)) (fun z hz => ?_) ?_
            · exact List.mem_append_left _ (HFO.out.keep z hz)
            · simp
          go_wp2_with (first
            | (at_lookup; refine wpList_lookup_own_unit _ rfl _ _ 165 rfl 9 123 keyedS Tryz.underlying165 (zeroU _) f l2.length _ rfl hown1 _ _ rfl hkx ?_; rw [hhas])
            | (at_mapUpdate; refine wpList_mapUpdate_own _ rfl _ _ _ 165 rfl 9 123 keyedS Tryz.underlying165 _ f l2.length _ rfl hownb (by unfold maxLen; omega) _ _ _ rfl rfl hkx _ [] unitElem_mk ?_; intro w2 hown2 hg2)
            | fail)
          have HF4 : Hid (Found rs f (l2 ++ [x]) w2) := by
            refine ⟨?_, ?_, fun z hz => ?_⟩
            · rw [setU_snoc, List.length_append]; exact hown2
            · rw [List.nodup_append]
              exact ⟨HFb.out.nodup, by simp, fun a ha b hb => by rw [List.mem_singleton.1 hb]; exact fun e => hin (e ▸ ha)⟩
            · rcases List.mem_append.1 hz with h | h
              · exact HFb.out.sub z h
              · rw [List.mem_singleton.1 h]; obtain ⟨k, _, e⟩ := HXE.out; exact edge_bodyNames e
          have HR4 : Hid (Rnd (fun k => k = f) w w2) := HRb.out.trans (Rnd.grown hg2 (fun k e => (Option.some.inj e).symm))
          have HRG4 : Hid (w2.ranges Tryz.prog 9 (unitElem (H := Unit)) B w.heap.size S.length (setU S) (fun z => left z && !z.sameKey (.string x)) cnt1) := HRGb.out.kept hg2 (fun e => hbf (Option.some.inj e)) (fun e => by have := Option.some.inj e; omega)
          have HHG4 : Hid (Hang w2 b nn D H (under rs) bf) := HHG.out.rnd HR4.out (fun e => hfb e.symm) (fun k hk e => HFF.out k hk e)
          have HCA := hide (HIH.out _ HLT.out x (l2 ++ [x]) w2 rfl HHG4.out hxl HF4.out)
          rw [← HSX.out] at HCA
          clear hown2 hg2 hown1 hownb
          refine HCA.out.mono ?_
          rintro e w3 ⟨rfl, ⟨l3, hf3, hfo3⟩, hr3⟩
          have HF5 := hide hf3
          have HFO5 : Hid (Follows rs name (· ∈ l) (fun z => z ∈ S ∧ (left (.string z) && !(Lit.string z).sameKey (.string x)) = false) (· ∈ l3)) := by
            have e1 : (fun z => z ∈ l2 ++ [x]) = (fun z => z ∈ l2 ∨ z = x) := by funext z; simp
            have h1 : Follows rs x (fun z => z ∈ l2 ∨ z = x) (Edge rs x) (· ∈ l3) := e1 ▸ hfo3
            refine (HFO.out.new HXE.out h1).whole (fun z hz => ?_)
            by_cases e : z = x
            · exact .inr e
            · refine .inl ⟨hz.1, ?_⟩
              have h2 := hz.2
              rw [sameKey_ne (fun e2 => e (by injection e2))] at h2
              simpa using h2
          have HRG5 : Hid (w3.ranges Tryz.prog 9 (unitElem (H := Unit)) B w.heap.size S.length (setU S) (fun z => left z && !z.sameKey (.string x)) cnt1) :=
            HRG4.out.kept (row := some f) ⟨hr3.os, hr3.tape, hr3.output, hr3.size, fun i hi hne => hr3.block i hi (fun e => hne (by rw [e]))⟩ (fun e => hbf (Option.some.inj e)) (fun e => by have := Option.some.inj e; omega)
          have HR5 : Hid (Rnd (fun k => k = f) w w3) := HR4.out.trans hr3
          clear hf3 hfo3 hr3
          go_wp2
          exact ⟨⟨_, cnt1, l3, HRG5, HF5, HFO5, HR5⟩, by rw [HRG5.out.left_eq, HRG.out.left_eq]; exact hlt⟩
  · rw [if_neg hHn] at hlk
    have HU : Hid (under rs name = []) := HHH.out name (by simpa using hHn)
    have hrg := run_range_nilMap (P := Tryz.prog) w 165 9 123 Tryz.underlying165
    have hnx : ∀ ty, (Instr.next (.pointer (some ⟨w.heap.size, 0, none⟩)) false ty).run Tryz.prog (w.alloc (.mapIter none 0 #[] 0)) = _ := fun ty => run_next_nilMap _ ty 0 0 #[]
    clear hh hF
    go_enter Tryz.func95, Tryz.ntmps95
    go_wp2
    refine wp_loop_rounds 1 ?_
    rw [rounds_succ]
    go_wp2
    go_end0
    refine ⟨rfl, ⟨l, HF.out.at_ (Below.heap_alloc _ _ _ HF.out.own.lt), (Follows.start rs name (· ∈ l)).whole (fun x hx => ?_)⟩, (Rnd.refl _ _).alloc _⟩
    have := (HEM.out x).2 hx
    rw [HU.out] at this
    simp at this
end Go.Proofs.YtgllfcoafgphbaaGreatDoor
