import Derived.Test.YtgllfcoafgphbaaGreatDoorM10
import Derived.Test.YtgllfcoafgphbaaGreatDoorM11
import Derived.Maps.OwnSet
import Derived.Shelf.RegionOpen
import Derived.RegionIn
/-
  The numbers of names as a map; one atom's lift; the program's check.step, walked.
-/
namespace Go.Proofs.YtgllfcoafgphbaaGreatDoor
open Go.ChangeShapes Go.WideShapes Go.ChangeAt Go.RowKit Go.Hands Go.WideMaps Go.Maps
set_option linter.unusedVariables false
/-- one atom lifts the head -/
def liftX (h : List UInt8) (s : (List UInt8 → Nat) × Bool) (x : BX) : (List UInt8 → Nat) × Bool := if s.1 h < s.1 x.name + x.kind then (setN s.1 h (s.1 x.name + x.kind), true) else s
theorem liftX_body (h : List UInt8) : ∀ (ps : List PPart) (vs : List Value) (s : (List UInt8 → Nat) × Bool), vs.length = ps.length → (bodyX ps vs).foldl (liftX h) s = liftB h ps s
  | [], vs, s, _ => by simp [bodyX, liftB]
  | p :: ps, [], s, hl => by simp at hl
  | p :: ps, v :: vs, s, hl => by
    have ih := liftX_body h ps vs
    have e : bodyX (p :: ps) (v :: vs) = (if p.kind == 0 || p.kind == 1 then [bxOf p v] else []) ++ bodyX ps vs := by
      unfold bodyX
      rw [List.zip_cons_cons, List.filter_cons]
      by_cases hk : (p.kind == 0 || p.kind == 1) = true
      · rw [if_pos (by exact hk), if_pos hk]; rfl
      · rw [if_neg (by exact hk), if_neg hk]; rfl
    rw [e, List.foldl_append, liftB, ih _ (by simpa using hl)]
    congr 1
    by_cases hk : (p.kind == 0 || p.kind == 1) = true
    · rw [if_pos hk]
      have hk2 : p.kind < 2 := by simp at hk; omega
      simp only [List.foldl_cons, List.foldl_nil, liftX, bxOf, lift1, moves1, hk2, true_and]
      by_cases hm : s.1 h < s.1 p.atom.name + p.kind
      · simp [hm]
      · simp [hm]
    · rw [if_neg hk]
      have hk2 : ¬ p.kind < 2 := by simp at hk; omega
      simp [lift1, moves1, hk2]
theorem liftX_under {h : List UInt8} {g : List UInt8 → Nat} {s : (List UInt8 → Nat) × Bool} {x : BX} (hs : ∀ y, s.1 y ≤ g y) (hx : g x.name + x.kind ≤ g h) : ∀ y, (liftX h s x).1 y ≤ g y := by
  intro y
  unfold liftX
  by_cases hm : s.1 h < s.1 x.name + x.kind
  · rw [if_pos hm]
    by_cases e : y = h
    · subst e; simp only [setN_same]; have := hs x.name; omega
    · simp only [setN_other _ _ e]; exact hs y
  · rw [if_neg hm]; exact hs y
/-- the map of the numbers, as it reads: of the names N -/
structure NumD (D : DataW Unit) (f : List UInt8 → Nat) (N : List UInt8 → Bool) : Prop where
  isMap : IsMap D
  has : ∀ n, Maps.has D (.string n) = N n
  at' : ∀ n, D.atKey (.string n) (.lit (.int .i64 0)) = .lit (.int .i64 (f n : Nat))
theorem NumD.nil : NumD (.map []) (fun _ => 0) (fun _ => false) := ⟨isMap_empty, fun n => rfl, fun n => rfl⟩
theorem NumD.put {D : DataW Unit} {f : List UInt8 → Nat} {N : List UInt8 → Bool} (h : NumD D f N) (x : List UInt8) (c : Nat) : NumD (D.put (.string x) (.lit (.int .i64 (c : Nat)))) (setN f x c) (fun n => N n || n == x) := by
  refine ⟨h.isMap.put _ _, fun n => ?_, fun n => ?_⟩
  · by_cases e : n = x
    · subst e; rw [has_put_same h.isMap (by simp [WideAt.IsKeyLit])]; simp
    · rw [has_put_other (by intro e2; injection e2 with e3; exact e e3), h.has]; simp [e]
  · by_cases e : n = x
    · subst e; rw [atKey_put_same h.isMap (by simp [WideAt.IsKeyLit]), setN_same]
    · rw [atKey_put_other (by intro e2; injection e2 with e3; exact e e3), setN_other _ _ e]; exact h.at' n
set_option maxRecDepth 100000 in
set_option maxHeartbeats 1000000 in
theorem step_any (k : Nat) (w : World) (hk : k ≤ 1) : Calls Tryz.prog 80 #[.int .i64 (k : Nat)] w fun e w' => e = .returned (.int .i64 (k : Nat)) ∧ w' = w := by
  by_cases h0 : k = 0
  · subst h0
    go_enter Tryz.func80, Tryz.ntmps80
    go_wp2
    go_ret
    exact ⟨rfl, rfl⟩
  · obtain rfl : k = 1 := by omega
    go_enter Tryz.func80, Tryz.ntmps80
    go_wp2
    go_ret
    exact ⟨rfl, rfl⟩
end Go.Proofs.YtgllfcoafgphbaaGreatDoor

/-
  The program's walk.binds, walked.
-/
namespace Go.Proofs.YtgllfcoafgphbaaGreatDoor
open Go.ChangeShapes Go.WideShapes Go.ChangeAt Go.RowKit Go.Hands Go.WideMaps Go.Maps
set_option linter.unusedVariables false
attribute [local go_sem] Oper.semAt_some
theorem zeroU (w : World) : (zeroValue 123).run Tryz.prog w = .ok (.agg #[]) w := by kernel_rfl
/-- where an atom's terms lie -/
def TermsX (w : World) (x : BX) : Prop := x.args = [] ∨ ∃ g, x.ua = some ⟨g, 0, none⟩ ∧ g < w.heap.size ∧ ∀ k (hk : k < x.args.length), w.cell? ⟨g, k * 3, none⟩ = some (.bool x.args[k].isVar) ∧ w.cell? ⟨g, k * 3 + 1, none⟩ = some (.string (str x.args[k].text)) ∧ w.cell? ⟨g, k * 3 + 2, none⟩ = some (.int .i64 (x.args[k].place : Nat))
theorem bodyX_mem {ps : List PPart} {vs : List Value} {x : BX} (h : x ∈ bodyX ps vs) : ∃ (i : Nat) (p : PPart) (u : Value), ps[i]? = some p ∧ vs[i]? = some u ∧ (p.kind == 0 || p.kind == 1) = true ∧ x = bxOf p u := by
  unfold bodyX at h
  obtain ⟨q, hq, rfl⟩ := List.mem_map.1 h
  obtain ⟨hq1, hq2⟩ := List.mem_filter.1 hq
  obtain ⟨i, hi⟩ := List.mem_iff_getElem?.1 hq1
  rw [List.getElem?_zip_eq_some] at hi
  exact ⟨i, q.1, q.2, hi.1, hi.2, hq2, rfl⟩
theorem body_terms {tT tP : TypeId} {base : Nat} {w : World} {v : Value} {ps : List PPart} {vs : List Value} (h : PartsAt tT tP base w v ps vs) {x : BX} (hx : x ∈ bodyX ps vs) : x.n = x.args.length ∧ TermsX w x := by
  obtain ⟨i, p, u, hp, hu, _, rfl⟩ := bodyX_mem hx
  refine ⟨rfl, ?_⟩
  rcases own_terms (h.args i p u hp hu) with ⟨_, h0⟩ | ⟨g, cap, rfl, _, hg, hc⟩
  · exact .inl h0
  · exact .inr ⟨g, rfl, hg, hc⟩
/-- the variables among terms -/
def tvs (ts : List PTerm) : List (List UInt8) := (ts.filter (·.isVar)).map (·.text)
def bindsX (l : List BX) : List (List UInt8) := l.flatMap fun x => if x.kind = 0 then tvs x.args else []
theorem bindsX_snoc (l : List BX) (x : BX) : bindsX (l ++ [x]) = bindsX l ++ (if x.kind = 0 then tvs x.args else []) := by simp [bindsX]
theorem tvs_len (ts : List PTerm) : (tvs ts).length ≤ ts.length := by unfold tvs; rw [List.length_map]; exact List.length_filter_le _ _
theorem tvs_next (ts : List PTerm) (k : Nat) (h : k < ts.length) : tvs (ts.take (k + 1)) = tvs (ts.take k) ++ (if ts[k].isVar then [ts[k].text] else []) := by
  unfold tvs
  rw [List.take_succ_eq_append_getElem h, List.filter_append, List.map_append]
  congr 1
  by_cases hv : ts[k].isVar <;> simp [hv]
theorem bindsX_len (l : List BX) (h : ∀ x ∈ l, x.args.length ≤ 1000000) : (bindsX l).length ≤ l.length * 1000000 := by
  induction l with
  | nil => simp [bindsX]
  | cons x l ih =>
    have h1 := ih (fun y hy => h y (List.mem_cons_of_mem _ hy))
    have h2 := h x (List.mem_cons_self ..)
    have h3 := tvs_len x.args
    have e : bindsX (x :: l) = (if x.kind = 0 then tvs x.args else []) ++ bindsX l := by simp [bindsX]
    rw [e, List.length_append, List.length_cons]
    split
    · omega
    · rw [List.length_nil]; omega
/-- the set of these, as the map that holds it reads -/
def litsU (l : List (List UInt8)) : List Lit := l.map Lit.string
abbrev setU (l : List (List UInt8)) : DataW Unit := setOf (.agg []) (litsU l)
theorem setU_snoc (l : List (List UInt8)) (t : List UInt8) : setU (l ++ [t]) = (setU l).put (.string t) (.agg []) := by
  rw [setU, litsU, List.map_append]; exact setOf_snoc _ _ _
theorem setU_has (l : List (List UInt8)) (t : List UInt8) : Maps.has (setU l) (.string t) = decide (t ∈ l) := by
  have hk : ∀ x ∈ litsU l, WideAt.IsKeyLit x := by
    intro x hx
    obtain ⟨q, _, rfl⟩ := List.mem_map.1 hx
    simp [WideAt.IsKeyLit]
  rw [setU, has_setOf _ _ _ hk, litsU, List.any_map, Bool.eq_iff_iff, List.any_eq_true, decide_eq_true_iff]
  constructor
  · rintro ⟨q, hq, h⟩
    by_cases e : (Lit.string q) = Lit.string t
    · injection e with e; rw [← e]; exact hq
    · simp only [Function.comp_apply] at h
      rw [sameKey_ne e] at h; cases h
  · intro h
    exact ⟨t, h, by simp only [Function.comp_apply]; exact WideAt.sameKey_self (by simp [WideAt.IsKeyLit])⟩
/-- the set is what the body binds -/
theorem bindsX_bound (ps : List PPart) (vs : List Value) (hl : vs.length = ps.length) (v : List UInt8) : decide (v ∈ bindsX (bodyX ps vs)) = boundV ps v := by
  rw [Bool.eq_iff_iff, decide_eq_true_iff]
  unfold boundV bindsX
  rw [List.mem_flatMap, List.any_eq_true]
  constructor
  · rintro ⟨x, hx, hv⟩
    obtain ⟨i, p, u, hp, hu, hk, rfl⟩ := bodyX_mem hx
    refine ⟨p, List.mem_of_getElem? hp, ?_⟩
    by_cases h0 : p.kind = 0
    · simp only [bxOf, h0, if_true] at hv
      obtain ⟨t, ht, rfl⟩ := List.mem_map.1 hv
      obtain ⟨ht1, ht2⟩ := List.mem_filter.1 ht
      simp only [h0, decide_true, Bool.true_and, List.any_eq_true]
      exact ⟨t, ht1, by simp [ht2]⟩
    · simp [bxOf, h0] at hv
  · rintro ⟨p, hp, h⟩
    simp only [Bool.and_eq_true, decide_eq_true_eq, List.any_eq_true] at h
    obtain ⟨h0, t, ht, htv, hte⟩ := h
    obtain ⟨i, hi⟩ := List.mem_iff_getElem?.1 hp
    have hlt : i < ps.length := (List.getElem?_eq_some_iff.1 hi).1
    have hu : vs[i]? = some (vs[i]'(by omega)) := List.getElem?_eq_getElem (by omega)
    refine ⟨bxOf p (vs[i]'(by omega)), ?_, ?_⟩
    · unfold bodyX
      refine List.mem_map.2 ⟨(p, vs[i]'(by omega)), List.mem_filter.2 ⟨List.mem_iff_getElem?.2 ⟨i, List.getElem?_zip_eq_some.2 ⟨hi, hu⟩⟩, by simp [h0]⟩, rfl⟩
    · simp only [bxOf, h0, if_true, tvs]
      exact List.mem_map.2 ⟨t, List.mem_filter.2 ⟨ht, htv⟩, by simpa using hte⟩
set_option maxRecDepth 100000 in
set_option maxHeartbeats 4000000 in
theorem binds_any (base : Nat) (name : ByteArray) (ha : Option Addr) (hn hc : Nat) (place : Int) (bd : Value) (ps : List PPart) (vs : List Value) (w0 w : World) (hw0 : Rnd (fun _ => False) w0 w) (hparts : PartsAt 76 164 base w0 bd ps vs)
    (hl : ps.length ≤ 1000000) (hkd : ∀ p ∈ ps, p.kind ≤ 1000) (hb : ∀ x ∈ bodyX ps vs, x.args.length ≤ 1000000 ∧ ∀ t ∈ x.args, t.text.length ≤ 1000000) :
    Calls Tryz.prog 61 #[.agg #[.string name, .slice ha hn hc, .int .i64 place, bd]] w fun e w' => ∃ (b nn : Nat), w.heap.size ≤ b ∧ e = .returned (.map (some b)) ∧ w'.ownsMap Tryz.prog 9 unitElem b nn (setU (bindsX (bodyX ps vs))) ∧ Below w.heap.size w w' := by
  have hmm := @run_makeMap Tryz.prog
  have hbd := own_slice hparts.own
  obtain ⟨bda, HBA⟩ : ∃ a, Hid (a = sliceA bd) := ⟨_, rfl⟩
  obtain ⟨bdc, HBC⟩ : ∃ c, Hid (c = sliceC bd) := ⟨_, rfl⟩
  rw [← HBA.out, ← HBC.out] at hbd
  have HPS := hide hparts
  have HW0 := hide hw0
  have HKD := hide hkd
  have HBB := hide hb
  have HBD := hide hbd
  clear hparts hw0 hkd hb HBA HBC
  rw [hbd]
  clear hbd
  obtain ⟨W2, HW2⟩ : ∃ W2, Hid (W2 = ((w.alloc (.cells #[.string name, .slice ha hn hc, .int .i64 place, .slice bda ps.length bdc] 112)).alloc (.map #[] 0)).alloc (.cells #[.map (some (w.heap.size + 1))] 120)) := ⟨_, rfl⟩
  have HB2 : Hid (Below w.heap.size w W2) := by rw [HW2.out]; exact (((Below.refl _ _).alloc (Nat.le_refl _) _).alloc (by simp) _).alloc (by simp; omega) _
  have HR2 : Hid (Rnd (fun _ => False) w W2) := by rw [HW2.out]; exact (((Rnd.refl _ _).alloc _).alloc _).alloc _
  have HS2 : Hid (W2.heap.size = w.heap.size + 3) := by show _ = _; rw [HW2.out]; simp
  have c2 : W2.cell? ⟨w.heap.size + 1 + 1, 0, none⟩ = some (.map (some (w.heap.size + 1))) := by
    rw [HW2.out, World.cell?_alloc_at _ _ _ _ (by simp)]; rfl
  have HM2 : Hid (W2.ownsMap Tryz.prog 9 unitElem (w.heap.size + 1) 0 (setU [])) := by
    have h1 := World.ownsMap_made (H := Unit) (w.alloc (.cells #[.string name, .slice ha hn hc, .int .i64 place, .slice bda ps.length bdc] 112)) Tryz.prog 9 unitElem
    rw [World.size_alloc] at h1
    refine mapAt h1 ?_
    rw [HW2.out]
    exact Below.heap_alloc _ _ _ (by simp)
  obtain ⟨n, hn1⟩ : ∃ n : Nat, 30 ≤ n := ⟨30, by omega⟩
  refine (callsIn_wide (n := n)).1 ?_
  refine callsIn_of_wp_marks Tryz.func61 rfl trivial ?_ rfl
  simp only [Tryz.ntmps61, List.size_toArray, List.length_cons, List.length_nil, Nat.reduceAdd, Nat.reduceSub, Array.replicate_succ, Array.replicate_zero, List.push_toArray, List.append_toArray, List.nil_append, List.cons_append]
  gi_wp2_with fail
  have hW2 := HW2.out.symm
  rw [hW2]
  clear hW2
  refine ⟨trivial, fun h => (by cases h), ?_⟩
  refine (callsIn_wide.2 (body_any name ha hn hc place bda ps.length bdc W2)).mono ?_
  rintro e W4 ⟨rfl, hW4⟩
  have HW4 := hide hW4
  have HR24 : Hid (Rnd (fun _ => False) W2 W4) := by rw [HW4.out]; exact (Rnd.refl _ _).alloc _
  have HS4 : Hid (W4.heap.size = W2.heap.size + 1) := by show _ = _; rw [HW4.out]; simp
  have b4 : W4.cell? ⟨W2.heap.size, 3, none⟩ = some bd := by rw [HW4.out, HBD.out, World.cell?_alloc_at _ _ _ _ rfl]; rfl
  have HM4 : Hid (W4.ownsMap Tryz.prog 9 unitElem (w.heap.size + 1) 0 (setU [])) := mapAt HM2.out (HR24.out.block _ (by have := HS2.out; omega) (fun h => h))
  have c4 := HR24.out.cell c2 (fun h => h)
  have HR4 : Hid (Rnd (fun _ => False) w W4) := HR2.out.trans HR24.out
  have HS0 : Hid (w0.heap.size ≤ w.heap.size) := HW0.out.size
  clear hW4 HW4 c2 HM2
  gi_wp2
  refine range_hands rfl (by omega) (gf := 96) (lb := #[.pointer (some ⟨W2.heap.size, 0, none⟩)]) rfl trivial (enters_of Tryz.func96 (by kernel_rfl) rfl)
    (body_hands (n - 1) base W2.heap.size w0.heap.size bd ps vs (fun k => k = w.heap.size + 1) w0 W4 (Rnd.weak (HW0.out.trans HR4.out)) b4 HPS.out (fun g hg => (own_blk HPS.out.own hg).2) (fun k hm => by have := HS4.out; have := HS2.out; have := HS0.out; subst hm; omega) hl HKD.out)
    (Rnd.refl _ _) (fun k hm => by have := HS4.out; have := HS2.out; have := HS0.out; have hm2 : k = w.heap.size + 1 := hm; omega) (fun _ => False) (fun k hm => hm.elim) (fun _ => rfl)
    (fun pre W' => Below w.heap.size w W' ∧ W'.cell? ⟨w.heap.size + 1 + 1, 0, none⟩ = some (.map (some (w.heap.size + 1))) ∧ W'.ownsMap Tryz.prog 9 unitElem (w.heap.size + 1) (bindsX pre).length (setU (bindsX pre)))
    (fun _ _ _ => False)
    (fun s A C h hb => ⟨h.1.trans (hb.mono (by have := HS4.out; have := HS2.out; have := HS0.out; omega)), (hb.cell (p := ⟨w.heap.size + 1 + 1, 0, none⟩) (by have := HS4.out; have := HS2.out; have := HS0.out; show w.heap.size + 1 + 1 < _; omega)).trans h.2.1, mapAt h.2.2 (hb.block _ (by have := HS4.out; have := HS2.out; have := HS0.out; omega))⟩)
    (fun c s A C h hb => h)
    ⟨HR4.out.below (n := w.heap.size) (Nat.le_refl _) (fun _ h => h.elim), c4, HM4.out⟩
    (fun x a' W' => ∃ Bx, W'.cell? ⟨Bx, 0, none⟩ = some (.string (str x.name)) ∧ W'.cell? ⟨Bx, 1, none⟩ = some (.slice x.ua x.n x.uc) ∧ W'.cell? ⟨Bx, 2, none⟩ = some (.int .i64 (x.place : Nat)) ∧ a' = { tmps := #[.agg #[.string name, .slice ha hn hc, .int .i64 place, .slice bda ps.length bdc], .pointer (some ⟨w.heap.size, 0, none⟩), .map none, .pointer (some ⟨w.heap.size + 1 + 1, 0, none⟩), .int .i64 (x.kind : Nat), .pointer (some ⟨Bx, 0, none⟩), undef, undef, .map (some (w.heap.size + 1)), .agg #[.string name, .slice ha hn hc, .int .i64 place, .slice bda ps.length bdc], .func (.func 96) #[] #[.pointer (some ⟨W2.heap.size, 0, none⟩)], .int .i64 (x.kind : Nat), x.atomV, undef, undef, undef, undef, undef, undef, undef, undef, undef, undef, undef, undef, undef, undef, undef, undef, undef], defers := [] })
    ?hAx ?assign ?body ?done ?stop
  case hAx =>
    rintro x a' W' l' r o hl' ⟨Bx, h0, h1, h2, rfl⟩
    exact ⟨Bx, cell_put_loop hl' h0, cell_put_loop hl' h1, cell_put_loop hl' h2, rfl⟩
  case assign =>
    rintro l' pre ⟨xk, xn, xl, xa, xc, xp, xts⟩ W' K hsz hi hK
    have HK := hide hK
    clear hK hi
    dsimp only [BX.atomV]
    gi_wp2
    refine HK.out _ _ ((Rnd.refl _ _).alloc _) ⟨W'.heap.size, ?_, ?_, ?_, rfl⟩ <;> (rw [World.cell?_alloc_at _ _ _ _ rfl]; rfl)
  case body =>
    rintro l' pre x a' W' hsz ⟨hb, hcc, hown⟩ ⟨Bx, h0, h1, h2, rfl⟩ hlen
    have hmem : x ∈ bodyX ps vs := hlen.subset (by simp)
    obtain ⟨hxn, hxt⟩ := body_terms HPS.out hmem
    obtain ⟨hxa, hxs⟩ := HBB.out x hmem
    have HBS := hide hb
    have HSN : Hid (bindsX (pre ++ [x]) = bindsX pre ++ (if x.kind = 0 then tvs x.args else [])) := bindsX_snoc pre x
    have hpl : (bindsX pre).length ≤ pre.length * 1000000 := bindsX_len pre (fun y hy => (HBB.out y (hlen.subset (List.mem_append_left _ hy))).1)
    have hpn : pre.length ≤ 1000000 := by
      have e1 := hlen.length_le
      have e2 : (bodyX ps vs).length ≤ ps.length := by
        unfold bodyX; rw [List.length_map]
        refine Nat.le_trans (List.length_filter_le _ _) ?_
        rw [List.length_zip]; omega
      simp at e1; omega
    have hnn : (bindsX pre).length ≤ 1000000000000 := Nat.le_trans hpl (by omega)
    clear hlen hmem hb hpl hpn
    by_cases hk0 : x.kind = 0
    · have HSN2 : Hid (bindsX (pre ++ [x]) = bindsX pre ++ tvs x.args) := by show _ = _; rw [HSN.out, if_pos hk0]
      have hbn : ((x.kind : Int) != 0) = false := by simp [hk0]
      rw [hxn] at h1
      obtain ⟨ts, HTS⟩ : ∃ ts, Hid (ts = x.args) := ⟨_, rfl⟩
      have hxt2 : ts = [] ∨ ∃ g, x.ua = some ⟨g, 0, none⟩ ∧ g < w.heap.size ∧ ∀ k (hk : k < ts.length), W'.cell? ⟨g, k * 3, none⟩ = some (.bool ts[k].isVar) ∧ W'.cell? ⟨g, k * 3 + 1, none⟩ = some (.string (str ts[k].text)) ∧ W'.cell? ⟨g, k * 3 + 2, none⟩ = some (.int .i64 (ts[k].place : Nat)) := by
        rw [HTS.out]
        rcases hxt with h | ⟨g, hg1, hg2, hg3⟩
        · exact .inl h
        · refine .inr ⟨g, hg1, Nat.lt_of_lt_of_le hg2 HS0.out, fun k hk => ?_⟩
          obtain ⟨t0, t1, t2⟩ := hg3 k hk
          have hgw : g < w.heap.size := Nat.lt_of_lt_of_le hg2 HS0.out
          exact ⟨(HBS.out.cell (p := ⟨g, k * 3, none⟩) hgw).trans (HW0.out.cell t0 (fun h => h)), (HBS.out.cell (p := ⟨g, k * 3 + 1, none⟩) hgw).trans (HW0.out.cell t1 (fun h => h)), (HBS.out.cell (p := ⟨g, k * 3 + 2, none⟩) hgw).trans (HW0.out.cell t2 (fun h => h))⟩
      rw [← HTS.out] at h1 hxa hxs HSN2
      have HXT := hide hxt2
      have HXS := hide hxs
      have HOWN := hide hown
      clear hxt hxt2 hxs hown hxn
      gi_wp2
      gi_loopw [18] (fun iv wr => ∃ k : Nat, k ≤ ts.length ∧ iv = .int .i64 k ∧ Hid (Rnd (fun k => k = w.heap.size + 1) W' wr) ∧ Hid (wr.ownsMap Tryz.prog 9 unitElem (w.heap.size + 1) ((bindsX pre).length + (tvs (ts.take k)).length) (setU (bindsX pre ++ tvs (ts.take k))))) (fun iv _ => ts.length - (intOf iv).toNat)
      case atStart => exact ⟨0, by omega, rfl, Rnd.refl _ _, by simpa [tvs] using HOWN⟩
      case round =>
        obtain ⟨k, hk, rfl, HRW, HMO⟩ := hrel
        by_cases hlt : k < ts.length
        · rcases HXT.out with h | ⟨g, hgx, hgw, hgc⟩
          · exfalso; rw [h] at hlt; simp at hlt
          · rw [hgx]
            have hgm : ¬ (g = w.heap.size + 1) := by omega
            obtain ⟨t0, t1, t2⟩ := hgc k hlt
            replace t0 := HRW.out.cell t0 hgm
            replace t1 := HRW.out.cell t1 hgm
            replace t2 := HRW.out.cell t2 hgm
            have HTN : Hid (tvs (ts.take (k + 1)) = tvs (ts.take k) ++ (if ts[k].isVar then [ts[k].text] else [])) := tvs_next ts k hlt
            have hsx : ts[k].text.length ≤ 1000000 := HXS.out _ (List.getElem_mem hlt)
            obtain ⟨t, HT⟩ : ∃ t, Hid (t = ts[k]) := ⟨ts[k], (rfl : ts[k] = _)⟩
            rw [← HT.out] at t0 t1 t2 HTN hsx
            have hkey : keyOf Tryz.prog 9 (.string (str t.text)) = some (.string t.text) := by
              have := keyOf_string_mk Tryz.underlying9 (s := str t.text) (by rw [str_size]; unfold maxLen; omega)
              rw [data_str] at this; exact this
            obtain ⟨sx, HSX⟩ : ∃ sx, Hid (sx = str t.text) := ⟨_, rfl⟩
            rw [← HSX.out] at hkey t1
            obtain ⟨wb, HWB⟩ : ∃ wb, Hid (wb = wr.alloc (.cells #[.bool t.isVar, .string sx, .int .i64 (t.place : Nat)] 76)) := ⟨_, rfl⟩
            have HRB : Hid (Rnd (fun k => k = w.heap.size + 1) W' wb) := by rw [HWB.out]; exact HRW.out.alloc _
            have b0 : wb.cell? ⟨wr.heap.size, 0, none⟩ = some (.bool t.isVar) := by rw [HWB.out, World.cell?_alloc_at _ _ _ _ rfl]; rfl
            have b1 : wb.cell? ⟨wr.heap.size, 1, none⟩ = some (.string sx) := by rw [HWB.out, World.cell?_alloc_at _ _ _ _ rfl]; rfl
            have cb := HRB.out.cell hcc (fun e => by have e2 : w.heap.size + 1 + 1 = w.heap.size + 1 := e; omega)
            have hownb : wb.ownsMap Tryz.prog 9 unitElem (w.heap.size + 1) ((bindsX pre).length + (tvs (ts.take k)).length) (setU (bindsX pre ++ tvs (ts.take k))) := mapAt HMO.out (by rw [HWB.out]; exact Below.heap_alloc _ _ _ (mapLt HMO.out))
            have hwb := HWB.out.symm
            have htl := tvs_len (ts.take k)
            rw [List.length_take] at htl
            clear hgc hgx
            cases htv : t.isVar with
            | true =>
              rw [htv] at t0 b0 HTN hwb
              have HT2 : Hid (tvs (ts.take (k + 1)) = tvs (ts.take k) ++ [t.text]) := by show _ = _; rw [HTN.out, if_pos rfl]
              gi_wp2_with (first
                | (gi_at_mapUpdate; refine wpListIn_mapUpdate_own _ rfl _ _ _ 120 rfl 9 123 keyedS Tryz.underlying120 _ (w.heap.size + 1) _ _ rfl hownb (by unfold maxLen; omega) _ _ _ rfl rfl hkey _ [] unitElem_mk ?_; intro w1 hown1 hgrow1)
                | fail)
              have R1 : Hid (w1.ownsMap Tryz.prog 9 unitElem (w.heap.size + 1) ((bindsX pre).length + (tvs (ts.take (k + 1))).length) (setU (bindsX pre ++ tvs (ts.take (k + 1))))) := by
                rw [HT2.out, ← List.append_assoc, setU_snoc, List.length_append]; exact hown1
              have R2 : Hid (Rnd (fun k => k = w.heap.size + 1) W' w1) := HRB.out.trans (Rnd.grown hgrow1 (fun k e => by cases e; rfl))
              clear hown1 hgrow1 hownb hwb b0 b1 t0 t1 t2 cb
              gi_wp2
              go_roundw
              case rel => exact ⟨k + 1, by omega, by go_num, R2, R1⟩
              case measure => simp [intOf]; omega
            | false =>
              rw [htv] at t0 b0 HTN hwb
              have HT2 : Hid (tvs (ts.take (k + 1)) = tvs (ts.take k)) := by show _ = _; rw [HTN.out, if_neg (by simp), List.append_nil]
              have R1 : Hid (wb.ownsMap Tryz.prog 9 unitElem (w.heap.size + 1) ((bindsX pre).length + (tvs (ts.take (k + 1))).length) (setU (bindsX pre ++ tvs (ts.take (k + 1))))) := by rw [HT2.out]; exact hownb
              gi_wp2
              go_roundw
              case rel => exact ⟨k + 1, by omega, by go_num, HRB, R1⟩
              case measure => simp [intOf]; omega
        · have HE : Hid (wr.ownsMap Tryz.prog 9 unitElem (w.heap.size + 1) (bindsX (pre ++ [x])).length (setU (bindsX (pre ++ [x])))) := by
            have := HMO.out
            rw [List.take_of_length_le (by omega)] at this
            rw [HSN2.out, List.length_append]; exact this
          gi_wp2
          refine ⟨HRW.out, ?_, HRW.out.cell hcc (fun e => by have e2 : w.heap.size + 1 + 1 = w.heap.size + 1 := e; omega), HE.out⟩
          exact HBS.out.trans (HRW.out.below (n := w.heap.size) HBS.out.size (fun k e => by have e2 : k = w.heap.size + 1 := e; omega))
    · have HSN2 : Hid (bindsX (pre ++ [x]) = bindsX pre) := by show _ = _; rw [HSN.out, if_neg hk0, List.append_nil]
      have hbn : ((x.kind : Int) != 0) = true := by simp; omega
      gi_wp2
      exact ⟨Rnd.refl _ _, HBS.out, hcc, by rw [HSN2.out]; exact hown⟩
  case done =>
    rintro D xs W' hD rfl ⟨hb, hcc, hown⟩ hd
    gi_wp2
    refine ⟨by simp, .inl ⟨_, _, rfl, run_takeDeferred hd, ?_⟩⟩
    have hDW : w.heap.size ≤ D := by have := HS4.out; have := HS2.out; have := HS0.out; omega
    refine ⟨_, results_tmp rfl _ _ _, w.heap.size + 1, _, Nat.le_succ _, rfl, mapAt hown (World.putObj_heap_other (by have := HS4.out; have := HS2.out; have := HS0.out; omega)), hb.trans (below_put hDW)⟩
  case stop =>
    rintro D c pre W' hD hpre h hd
    exact h.elim
end Go.Proofs.YtgllfcoafgphbaaGreatDoor

/-
  The program's check.raise, walked.
-/
namespace Go.Proofs.YtgllfcoafgphbaaGreatDoor
open Go.ChangeShapes Go.WideShapes Go.ChangeAt Go.RowKit Go.Hands Go.WideMaps Go.Maps
set_option linter.unusedVariables false
attribute [local go_sem] Oper.semAt_some
theorem NumD.put_in {D : DataW Unit} {f : List UInt8 → Nat} {N : List UInt8 → Bool} (h : NumD D f N) (x : List UInt8) (c : Nat) (hx : N x = true) : NumD (D.put (.string x) (.lit (.int .i64 (c : Nat)))) (setN f x c) N := by
  have e : (fun n => N n || n == x) = N := by
    funext n
    by_cases hn : n = x
    · subst hn; simp [hx]
    · simp [hn]
  exact e ▸ h.put x c
theorem liftR_takeP (rs : List PRule) (k : Nat) (s : (List UInt8 → Nat) × Bool) (h : k < rs.length) : liftR (rs.take (k + 1)) s = liftB rs[k].head.name rs[k].body (liftR (rs.take k) s) := by
  rw [List.take_succ_eq_append_getElem h]
  have e : ∀ (l1 l2 : List PRule) (s : (List UInt8 → Nat) × Bool), liftR (l1 ++ l2) s = liftR l2 (liftR l1 s) := by
    intro l1
    induction l1 with
    | nil => intro l2 s; rfl
    | cons a l ih => intro l2 s; exact ih l2 _
  rw [e]; rfl
theorem foldX_under {h : List UInt8} {g : List UInt8 → Nat} : ∀ (l : List BX) (s : (List UInt8 → Nat) × Bool), (∀ y, s.1 y ≤ g y) → (∀ x ∈ l, g x.name + x.kind ≤ g h) → ∀ y, (l.foldl (liftX h) s).1 y ≤ g y
  | [], s, hs, _, y => hs y
  | x :: l, s, hs, hx, y => foldX_under l _ (liftX_under hs (hx x (List.mem_cons_self ..))) (fun z hz => hx z (List.mem_cons_of_mem _ hz)) y
set_option maxRecDepth 100000 in
set_option maxHeartbeats 4000000 in
theorem raise_any (base bm nn : Nat) (D : DataW Unit) (f g : List UInt8 → Nat) (N : List UInt8 → Bool) (v : Value) (rs : List PRule) (hs bs : List Value) (V : Nat → List Value) (w : World)
    (hm : w.ownsMap Tryz.prog 9 (plainElem Tryz.prog 3) bm nn D) (hD : NumD D f N) (hrules : RulesAt 76 164 112 base w v rs hs bs)
    (hV : ∀ (i : Nat) (r : PRule) (u : Value), rs[i]? = some r → bs[i]? = some u → PartsAt 76 164 base w u r.body (V i))
    (hg : Sol rs g) (hfg : ∀ x, f x ≤ g x) (hgb : ∀ x, g x ≤ 1000000000) (hN : ∀ r ∈ rs, N r.head.name = true) (hrl : rs.length ≤ 1000) (hnn : nn ≤ 10000000000000000)
    (hr : ∀ r ∈ rs, r.body.length ≤ 1000000 ∧ r.head.name.length ≤ 1000000 ∧ ∀ p ∈ r.body, p.kind ≤ 1000 ∧ p.atom.name.length ≤ 1000000) :
    Calls Tryz.prog 48 #[.map (some bm), v] w fun e w' => e = .returned (.bool (liftR rs (f, false)).2) ∧ (∃ nn' D', w'.ownsMap Tryz.prog 9 (plainElem Tryz.prog 3) bm nn' D' ∧ NumD D' (liftR rs (f, false)).1 N ∧ nn' ≤ nn + rs.length * 1000000) ∧ Rnd (fun k => k = bm) w w' := by
  have hvv := own_slice hrules.own
  obtain ⟨va, HVA⟩ : ∃ a, Hid (a = sliceA v) := ⟨_, rfl⟩
  obtain ⟨vc, HVC⟩ : ∃ c, Hid (c = sliceC v) := ⟨_, rfl⟩
  rw [← HVA.out, ← HVC.out] at hvv
  have HRL := hide hrules
  have HVV := hide hV
  have HM := hide hm
  have HD := hide hD
  have HG := hide hg
  have HFG := hide hfg
  have HGB := hide hgb
  have HN := hide hN
  have HR := hide hr
  have hbm : bm < w.heap.size := mapLt hm
  clear hm hD hrules hV hg hfg hgb hN hr
  rw [hvv]
  obtain ⟨W2, HW2⟩ : ∃ W2, Hid (W2 = (w.alloc (.cells #[.map (some bm)] 56)).alloc (.cells #[.bool false] 4)) := ⟨_, rfl⟩
  have HR2 : Hid (Rnd (fun _ => False) w W2) := by rw [HW2.out]; exact ((Rnd.refl _ _).alloc _).alloc _
  have HS2 : Hid (W2.heap.size = w.heap.size + 2) := by show _ = _; rw [HW2.out]; simp
  have m2 : W2.cell? ⟨w.heap.size, 0, none⟩ = some (.map (some bm)) := by
    rw [HW2.out]
    have h1 : Rnd (fun _ => False) (w.alloc (.cells #[.map (some bm)] 56)) ((w.alloc (.cells #[.map (some bm)] 56)).alloc (.cells #[.bool false] 4)) := (Rnd.refl _ _).alloc _
    exact h1.cell (by rw [World.cell?_alloc_at _ _ _ _ rfl]; rfl) (fun h => h)
  have HX2 : Hid (W2.heap[w.heap.size + 1]? = some (.cells #[.bool false] 4)) := by
    rw [HW2.out]
    have := World.alloc_heap_new (w.alloc (.cells #[.map (some bm)] 56)) (.cells #[.bool false] 4)
    rwa [World.size_alloc] at this
  have HM2 : Hid (W2.ownsMap Tryz.prog 9 (plainElem Tryz.prog 3) bm nn D) := mapAt HM.out (HR2.out.block _ hbm (fun h => h))
  obtain ⟨n, hn1⟩ : ∃ n : Nat, 30 ≤ n := ⟨30, by omega⟩
  refine (callsIn_wide (n := n)).1 ?_
  refine callsIn_of_wp_marks Tryz.func48 rfl trivial ?_ rfl
  simp only [Tryz.ntmps48, List.size_toArray, List.length_cons, List.length_nil, Nat.reduceAdd, Nat.reduceSub, Array.replicate_succ, Array.replicate_zero, List.push_toArray, List.append_toArray, List.nil_append, List.cons_append]
  gi_wp2
  rw [show ((w.alloc (.cells #[.map (some bm)] 56)).alloc (.cells #[.bool false] 4)) = W2 from HW2.out.symm]
  have HVL : Hid (∀ k, k < rs.length → ∃ g, va = some ⟨g, 0, none⟩ ∧ g < w.heap.size ∧ ¬ (g = bm ∨ g = w.heap.size + 1) ∧ ∀ (r : PRule) (a b : Value), rs[k]? = some r → hs[k]? = some a → bs[k]? = some b → ∀ (j : Nat) (x : Value), (ruleV r a b)[j]? = some x → W2.cell? ⟨g, k * 4 + j, none⟩ = some x) := by
    intro k hk
    rcases own_rules HRL.out with ⟨_, h0⟩ | ⟨g, cap, hvg, _, hgw, hc, _⟩
    · rw [h0] at hk; simp at hk
    · refine ⟨g, by rw [HVA.out, hvg]; rfl, hgw, ?_, fun r a b hr ha hb j x hx => HR2.out.cell (hc k r a b hr ha hb j x hx) (fun h => h)⟩
      rintro (e | e)
      · obtain ⟨es, clock, hb, _⟩ := HM.out
        have h2 := (HRL.out.own.2)
        rcases h2 with ⟨h3, _⟩ | ⟨g', cap', cur', h3, _, hg', _⟩
        · rw [hvg] at h3; cases h3
        · rw [hvg] at h3; cases h3
          rw [e, hb] at hg'; cases hg'
      · omega
  clear HVA HVC hvv
  refine wpIn_loop (fun a' w' => ∃ (k : Nat) (Ds : List Nat) (u7 u8 u9 u10 u11 u15 u16 u17 u18 u19 u20 u21 u22 u23 u24 u25 u26 u27 u28 u29 u30 u31 u32 u33 u34 u35 u36 u37 u38 u39 u40 : Value) (nk : Nat) (Dk : DataW Unit), k ≤ rs.length ∧ Hid (w'.heap[w.heap.size + 1]? = some (.cells #[.bool (liftR (rs.take k) (f, false)).2] 4)) ∧ Hid (w'.ownsMap Tryz.prog 9 (plainElem Tryz.prog 3) bm nk Dk) ∧ Hid (NumD Dk (liftR (rs.take k) (f, false)).1 N) ∧ nk ≤ nn + k * 1000000 ∧ Hid (Rnd (fun k => k = bm ∨ k = w.heap.size + 1) W2 w') ∧ Hid (Ds.Nodup) ∧ Hid (∀ D ∈ Ds, W2.heap.size ≤ D ∧ w'.heap[D]? = some (.deferred (some []))) ∧ a' = { tmps := #[.map (some bm), .slice va rs.length vc, .pointer (some ⟨w.heap.size, 0, none⟩), undef, .bool false, .pointer (some ⟨w.heap.size + 1, 0, none⟩), undef, u7, u8, u9, u10, u11, .slice va rs.length vc, .int .i64 (rs.length : Nat), .int .i64 ((k : Nat) : Int), u15, u16, u17, u18, u19, u20, u21, u22, u23, u24, u25, u26, u27, u28, u29, u30, u31, u32, u33, u34, u35, u36, u37, u38, u39, u40, undef], defers := Ds.map Go.Hands.mark })
    (fun a' _ => rs.length - (intOf (a'.tmps.getD 14 undef)).toNat) ?start ?round
  case start => exact ⟨0, [], _, _, _, _, _, _, _, _, _, _, _, _, _, _, _, _, _, _, _, _, _, _, _, _, _, _, _, _, _, _, _, nn, D, by omega, HX2, HM2, HD, by omega, Rnd.refl _ _, List.nodup_nil, (fun D hD => by simp at hD), rfl⟩
  case round =>
    rintro a' wr ⟨k, Ds, u7, u8, u9, u10, u11, u15, u16, u17, u18, u19, u20, u21, u22, u23, u24, u25, u26, u27, u28, u29, u30, u31, u32, u33, u34, u35, u36, u37, u38, u39, u40, nk, Dk, hk, HXK, HMK, HDK, hnk, HRW, HND, HDS, rfl⟩
    by_cases hlt : k < rs.length
    · have hlh : k < hs.length := by have := HRL.out.lh; omega
      have hlb : k < bs.length := by have := HRL.out.lb; omega
      obtain ⟨g0, rfl, hgw, hgm, hc⟩ := HVL.out k hlt
      have hrk : rs[k]? = some rs[k] := List.getElem?_eq_getElem hlt
      have hhk : hs[k]? = some hs[k] := List.getElem?_eq_getElem hlh
      have hbk : bs[k]? = some bs[k] := List.getElem?_eq_getElem hlb
      have hus := own_slice (HRL.out.heads k _ _ hrk hhk)
      have hpv := HVV.out k _ _ hrk hbk
      have hvs := own_slice hpv.own
      have hc2 := hc _ _ _ hrk hhk hbk
      obtain ⟨hrb, hrn, hrp⟩ := HR.out _ (List.getElem_mem hlt)
      have HTK : Hid (liftR (rs.take (k + 1)) (f, false) = liftB rs[k].head.name rs[k].body (liftR (rs.take k) (f, false))) := liftR_takeP rs k (f, false) hlt
      have HSO : Hid (∀ p ∈ rs[k].body, p.kind < 2 → g p.atom.name + p.kind ≤ g rs[k].head.name) := HG.out _ (List.getElem_mem hlt)
      have HNH : Hid (N rs[k].head.name = true) := HN.out _ (List.getElem_mem hlt)
      have HUN : Hid (∀ y, (liftR (rs.take k) (f, false)).1 y ≤ g y) := liftR_under (rs.take k) (f, false) (HG.out.mono (fun r hr => List.mem_of_mem_take hr)) HFG.out
      rw [hus, hvs] at hc2
      obtain ⟨r, HRK⟩ : ∃ r, Hid (r = rs[k]) := ⟨rs[k], (rfl : rs[k] = _)⟩
      rw [← HRK.out] at hc2 hpv hrb hrn hrp HTK HSO HNH
      obtain ⟨aa, HAA⟩ : ∃ aa, Hid (aa = sliceA hs[k]) := ⟨sliceA hs[k], (rfl : sliceA hs[k] = _)⟩
      obtain ⟨ac, HAC⟩ : ∃ ac, Hid (ac = sliceC hs[k]) := ⟨sliceC hs[k], (rfl : sliceC hs[k] = _)⟩
      obtain ⟨ba, HBA⟩ : ∃ ba, Hid (ba = sliceA bs[k]) := ⟨sliceA bs[k], (rfl : sliceA bs[k] = _)⟩
      obtain ⟨bc, HBC⟩ : ∃ bc, Hid (bc = sliceC bs[k]) := ⟨sliceC bs[k], (rfl : sliceC bs[k] = _)⟩
      have hbse : bs[k] = .slice ba r.body.length bc := by rw [HBA.out, HBC.out, HRK.out]; exact hvs
      rw [hbse] at hpv
      rw [← HAA.out, ← HAC.out, ← HBA.out, ← HBC.out] at hc2
      obtain ⟨st, HST⟩ : ∃ st, Hid (st = liftR (rs.take k) (f, false)) := ⟨liftR (rs.take k) (f, false), (rfl : liftR (rs.take k) (f, false) = _)⟩
      rw [← HST.out] at HXK HDK HTK HUN
      obtain ⟨hd, HHD⟩ : ∃ hd, Hid (hd = r.head.name) := ⟨r.head.name, (rfl : r.head.name = _)⟩
      obtain ⟨sh, HSH⟩ : ∃ sh, Hid (sh = str hd) := ⟨_, rfl⟩
      have hsh : str r.head.name = sh := by rw [HSH.out, HHD.out]
      have t0 := HRW.out.cell (hc2 0 _ rfl) hgm
      rw [Nat.add_zero, hsh] at t0
      have t1 := HRW.out.cell (hc2 1 _ rfl) hgm
      have t2 := HRW.out.cell (hc2 2 _ rfl) hgm
      have t3 := HRW.out.cell (hc2 3 _ rfl) hgm
      rw [← HHD.out] at hrn HTK HSO HNH
      have HPV := hide hpv
      have HRP := hide hrp
      clear hc hc2 hus hvs hpv hrp hhk hbk hrk hsh hbse
      obtain ⟨wb, HWB⟩ : ∃ wb, Hid (wb = wr.alloc (.cells #[.string sh, .slice aa r.head.args.length ac, .int .i64 (r.head.place : Nat), .slice ba r.body.length bc] 112)) := ⟨_, rfl⟩
      have hwb := HWB.out.symm
      have HRB : Hid (Rnd (fun _ => False) wr wb) := by rw [HWB.out]; exact (Rnd.refl _ _).alloc _
      have b0 : wb.cell? ⟨wr.heap.size, 0, none⟩ = some (.string sh) := by rw [HWB.out, World.cell?_alloc_at _ _ _ _ rfl]; rfl
      have b1 : wb.cell? ⟨wr.heap.size, 1, none⟩ = some (.slice aa r.head.args.length ac) := by rw [HWB.out, World.cell?_alloc_at _ _ _ _ rfl]; rfl
      have b2 : wb.cell? ⟨wr.heap.size, 2, none⟩ = some (.int .i64 (r.head.place : Nat)) := by rw [HWB.out, World.cell?_alloc_at _ _ _ _ rfl]; rfl
      have b3 : wb.cell? ⟨wr.heap.size, 3, none⟩ = some (.slice ba r.body.length bc) := by rw [HWB.out, World.cell?_alloc_at _ _ _ _ rfl]; rfl
      have HSB : Hid (wb.heap.size = wr.heap.size + 1) := by show _ = _; rw [HWB.out]; simp
      obtain ⟨wc, HWC⟩ : ∃ wc, Hid (wc = wb.alloc (.cells #[.string sh] 9)) := ⟨_, rfl⟩
      have hwc := HWC.out.symm
      have HRC : Hid (Rnd (fun _ => False) wb wc) := by rw [HWC.out]; exact (Rnd.refl _ _).alloc _
      have d0 := HRC.out.cell b0 (fun h => h)
      have d1 := HRC.out.cell b1 (fun h => h)
      have d2 := HRC.out.cell b2 (fun h => h)
      have d3 := HRC.out.cell b3 (fun h => h)
      have dh : wc.cell? ⟨wb.heap.size, 0, none⟩ = some (.string sh) := by rw [HWC.out, World.cell?_alloc_at _ _ _ _ rfl]; rfl
      have HSC : Hid (wc.heap.size = wb.heap.size + 1) := by show _ = _; rw [HWC.out]; simp
      have hsr : W2.heap.size ≤ wr.heap.size := HRW.out.size
      gi_wp2_with fail
      clear hwb hwc t0 t1 t2 t3 b0 b1 b2 b3 d0 d1 d2 d3 HWB HWC
      refine ⟨trivial, fun h => (by cases h), ?_⟩
      refine (callsIn_wide.2 (body_any sh aa r.head.args.length ac (r.head.place : Nat) ba r.body.length bc wc)).mono ?_
      rintro e W4 ⟨rfl, hW4⟩
      have HR4 : Hid (Rnd (fun _ => False) wr W4) := (HRB.out.trans HRC.out).trans (by rw [hW4]; exact (Rnd.refl _ _).alloc _)
      have HS4 : Hid (W4.heap.size = wc.heap.size + 1) := by show _ = _; rw [hW4]; simp
      have b4 : W4.cell? ⟨wc.heap.size, 3, none⟩ = some (.slice ba r.body.length bc) := by rw [hW4, World.cell?_alloc_at _ _ _ _ rfl]; rfl
      have h4 : W4.cell? ⟨wb.heap.size, 0, none⟩ = some (.string sh) := by
        have h1 : Rnd (fun _ => False) wc W4 := by rw [hW4]; exact (Rnd.refl _ _).alloc _
        exact h1.cell dh (fun h => h)
      have HR24 : Hid (Rnd (fun k => k = bm ∨ k = w.heap.size + 1) W2 W4) := HRW.out.trans (HR4.out.mono (fun _ h => h.elim))
      have m4 := HR24.out.cell m2 (by rintro (e | e) <;> omega)
      have HM4 : Hid (W4.ownsMap Tryz.prog 9 (plainElem Tryz.prog 3) bm nk Dk) := mapAt HMK.out (HR4.out.block _ (mapLt HMK.out) (fun h => h))
      have HX4 : Hid (W4.heap[w.heap.size + 1]? = some (.cells #[.bool st.2] 4)) := (HR4.out.block _ (Array.getElem?_eq_some_iff.1 HXK.out).1 (fun h => h)).trans HXK.out
      have HDB : Hid (∀ D ∈ Ds, W2.heap.size ≤ D ∧ D < W4.heap.size) := fun D hD => ⟨(HDS.out D hD).1, by have := (Array.getElem?_eq_some_iff.1 (HDS.out D hD).2).1; have := HR4.out.size; omega⟩
      clear hW4 dh
      have HGP : Hid (∀ q, (Value.slice ba r.body.length bc).ownBlock = some q → ¬ (q = bm ∨ q = w.heap.size + 1)) := by
        intro q hq hm
        have hq2 := own_blk HPV.out.own hq
        rcases hm with e | e
        · obtain ⟨es, clock, hb, _⟩ := HM.out
          rcases HPV.out.own.2 with ⟨h3, _⟩ | ⟨g', cap', cur', h3, _, hg', _⟩
          · rw [h3] at hq; cases hq
          · rw [h3] at hq; cases hq
            have e' : g' = bm := e
            rw [e', hb] at hg'; cases hg'
        · omega
      gi_wp2
      refine range_hands rfl (by omega) (gf := 96) (lb := #[.pointer (some ⟨wc.heap.size, 0, none⟩)]) rfl trivial (enters_of Tryz.func96 (by kernel_rfl) rfl)
        (body_hands0 (n - 1) base wc.heap.size _ r.body (V k) (fun k => k = bm ∨ k = w.heap.size + 1) w W4 ((HR2.out.mono (fun _ h => h.elim)).trans HR24.out) b4 HPV.out HGP.out (fun q hm => by have := HS4.out; have := HSC.out; have := HSB.out; have := HS2.out; have := hsr; have hm2 : q = bm ∨ q = w.heap.size + 1 := hm; omega) hrb (fun p hp => (HRP.out p hp).1))
        (Rnd.refl _ _) (fun q hm => by have := HS4.out; have := HSC.out; have := HSB.out; have := HS2.out; have := hsr; have hm2 : q = bm ∨ q = w.heap.size + 1 := hm; omega) (fun _ => False) (fun q hm => hm.elim) (fun _ => rfl)
        (fun pre W' => Rnd (fun k => k = bm ∨ k = w.heap.size + 1) W2 W' ∧ W'.heap[w.heap.size + 1]? = some (.cells #[.bool (pre.foldl (liftX hd) st).2] 4) ∧ (∃ (n2 : Nat) (D2 : DataW Unit), W'.ownsMap Tryz.prog 9 (plainElem Tryz.prog 3) bm n2 D2 ∧ NumD D2 (pre.foldl (liftX hd) st).1 N ∧ n2 ≤ nk + pre.length) ∧ (∀ D ∈ Ds, W'.heap[D]? = some (.deferred (some []))) ∧ W'.cell? ⟨wb.heap.size, 0, none⟩ = some (.string sh))
        (fun _ _ _ => False)
        (fun s A C h hb => ⟨low_rnd (β := Unit) (by have := HS4.out; have := HSC.out; have := HSB.out; have := HS2.out; have := hsr; omega) () A C h.1 hb, (hb.block _ (by have := HS4.out; have := HSC.out; have := HSB.out; have := HS2.out; have := hsr; omega)).trans h.2.1, by
          obtain ⟨n2, D2, h1, h2, h3⟩ := h.2.2.1
          exact ⟨n2, D2, mapAt h1 (hb.block _ (by have := HS4.out; have := HSC.out; have := HSB.out; have := HS2.out; have := hsr; omega)), h2, h3⟩, fun D hD => (hb.block D (HDB.out D hD).2).trans (h.2.2.2.1 D hD), (hb.cell (p := ⟨wb.heap.size, 0, none⟩) (by have := HS4.out; have := HSC.out; have := HSB.out; have := HS2.out; have := hsr; show wb.heap.size < _; omega)).trans h.2.2.2.2⟩)
        (fun c s A C h hb => h)
        ⟨HR24.out, HX4.out, ⟨nk, Dk, HM4.out, HDK.out, by simp⟩, fun D hD => (HR4.out.block D (Array.getElem?_eq_some_iff.1 (HDS.out D hD).2).1 (fun h => h)).trans (HDS.out D hD).2, h4⟩
        (fun x a' W' => ∃ Bx, W'.cell? ⟨Bx, 0, none⟩ = some (.string (str x.name)) ∧ W'.cell? ⟨Bx, 1, none⟩ = some (.slice x.ua x.n x.uc) ∧ W'.cell? ⟨Bx, 2, none⟩ = some (.int .i64 (x.place : Nat)) ∧ a' = { tmps := #[.map (some bm), .slice (some ⟨g0, 0, none⟩) rs.length vc, .pointer (some ⟨w.heap.size, 0, none⟩), undef, .bool false, .pointer (some ⟨w.heap.size + 1, 0, none⟩), undef, .pointer (some ⟨wr.heap.size, 0, none⟩), .pointer (some ⟨wb.heap.size, 0, none⟩), .int .i64 (x.kind : Nat), .pointer (some ⟨Bx, 0, none⟩), u11, .slice (some ⟨g0, 0, none⟩) rs.length vc, .int .i64 (rs.length : Nat), .int .i64 (k : Nat), .bool true, .pointer (some ⟨g0, k * 4, none⟩), .agg #[.string sh, .slice aa r.head.args.length ac, .int .i64 (r.head.place : Nat), .slice ba r.body.length bc], .pointer (some ⟨wr.heap.size, 0, none⟩), .pointer (some ⟨wr.heap.size, 0, none⟩), .string sh, .agg #[.string sh, .slice aa r.head.args.length ac, .int .i64 (r.head.place : Nat), .slice ba r.body.length bc], .func (.func 96) #[] #[.pointer (some ⟨wc.heap.size, 0, none⟩)], .int .i64 (x.kind : Nat), x.atomV, u25, u26, u27, u28, u29, u30, u31, u32, u33, u34, u35, u36, u37, u38, u39, u40, undef], defers := [] })
        ?hAx ?assign ?body ?done ?stop
      case hAx =>
        rintro x a' W' l' r o hl' ⟨Bx, h0, h1, h2, rfl⟩
        exact ⟨Bx, cell_put_loop hl' h0, cell_put_loop hl' h1, cell_put_loop hl' h2, rfl⟩
      case assign =>
        rintro l' pre ⟨xk, xn, xl, xa, xc, xp, xts⟩ W' K hsz hi hK
        have HK := hide hK
        clear hK hi
        dsimp only [BX.atomV]
        gi_wp2
        refine HK.out _ _ ((Rnd.refl _ _).alloc _) ⟨W'.heap.size, ?_, ?_, ?_, rfl⟩ <;> (rw [World.cell?_alloc_at _ _ _ _ rfl]; rfl)
      case body =>
        rintro l' pre x a' W' hsz ⟨hr5, hx5, ⟨n2, D2, hown, hd5, hn5⟩, hmk, hcs⟩ ⟨Bx, h0, h1, h2, rfl⟩ hlen
        have hin : ∀ y ∈ pre ++ [x], y.kind ≤ 1 ∧ y.name.length ≤ 1000000 ∧ g y.name + y.kind ≤ g hd := by
          intro y hy
          obtain ⟨i, p, u, hp, _, hkk, rfl⟩ := bodyX_mem (hlen.subset hy)
          have hpm := List.mem_of_getElem? hp
          have hk1 : p.kind ≤ 1 := by simp at hkk; omega
          exact ⟨hk1, (HRP.out p hpm).2, HSO.out p hpm (by omega)⟩
        have HFD : Hid ((pre ++ [x]).foldl (liftX hd) st = liftX hd (pre.foldl (liftX hd) st) x) := by show _ = _; rw [List.foldl_append]; rfl
        have hpl : pre.length < r.body.length := by
          have e1 := hlen.length_le
          have e2 : (bodyX r.body (V k)).length ≤ r.body.length := by
            unfold bodyX; rw [List.length_map]
            refine Nat.le_trans (List.length_filter_le _ _) ?_
            rw [List.length_zip]; omega
          simp at e1; omega
        have hun := foldX_under pre st HUN.out (fun y hy => (hin y (List.mem_append_left _ hy)).2.2)
        obtain ⟨s5, HS5⟩ : ∃ s5, Hid (s5 = pre.foldl (liftX hd) st) := ⟨pre.foldl (liftX hd) st, (rfl : pre.foldl (liftX hd) st = _)⟩
        rw [← HS5.out] at hx5 hd5 HFD hun
        obtain ⟨hkd0, hxl, hxg⟩ := hin x (by simp)
        have HKX : Hid (∀ y, s5.1 y ≤ 1000000000) := fun y => Nat.le_trans (hun y) (HGB.out y)
        have hatx := hd5.at' x.name
        have hath := hd5.at' hd
        have hb1 := HKX.out x.name
        have hb2 := HKX.out hd
        have hkx : keyOf Tryz.prog 9 (.string (str x.name)) = some (.string x.name) := by
          have := keyOf_string_mk Tryz.underlying9 (s := str x.name) (by rw [str_size]; unfold maxLen; omega)
          rw [data_str] at this; exact this
        have hkh : keyOf Tryz.prog 9 (.string sh) = some (.string hd) := by
          have := keyOf_string_mk Tryz.underlying9 (s := str hd) (by rw [str_size]; unfold maxLen; omega)
          rw [data_str] at this; rw [HSH.out]; exact this
        obtain ⟨sx, HSX⟩ : ∃ sx, Hid (sx = str x.name) := ⟨_, rfl⟩
        rw [← HSX.out] at hkx h0
        obtain ⟨a1, HA1⟩ : ∃ a1, Hid (a1 = s5.1 x.name) := ⟨_, rfl⟩
        obtain ⟨a2, HA2⟩ : ∃ a2, Hid (a2 = s5.1 hd) := ⟨_, rfl⟩
        rw [← HA1.out] at hatx hb1
        rw [← HA2.out] at hath hb2
        obtain ⟨kd, HKD⟩ : ∃ kd, Hid (kd = x.kind) := ⟨_, rfl⟩
        have hkd : kd ≤ 1 := by rw [HKD.out]; exact hkd0
        rw [← HKD.out]
        have HD5 := hide hd5
        have HMK := hide hmk
        have HR5 := hide hr5
        have HX5 := hide hx5
        have mm := hr5.cell m2 (by rintro (e | e) <;> omega)
        have kx : W'.cell? ⟨w.heap.size + 1, 0, none⟩ = some (.bool s5.2) := by simp [World.cell?, hx5]
        have fx : W'.frozen? ⟨w.heap.size + 1, 0, none⟩ = false := by simp [World.frozen?, hx5]
        clear hin hlen hun hxg hr5 hmk hd5 hx5 hkd0
        have hmx : Tryz.prog.follows .mixedOrders = true := by kernel_rfl
        have HLX : Hid (∀ W : World, W.heap = W'.heap → (Instr.lookup 56 (.map (some bm)) (.string sx) false).run Tryz.prog W = .ok (.int .i64 (a1 : Nat)) W) := by
          intro W hWh
          obtain ⟨c, hrun, hat, _⟩ := (mapAt (W := W) hown (by rw [hWh])).lookup_int keyedS Tryz.underlying56 Tryz.underlying3 (zeroI _) hkx
          rw [hatx] at hat
          injection hat with e1; injection e1 with e2 e3
          rw [e3]; exact hrun
        have HLH : Hid (∀ W : World, W.heap = W'.heap → (Instr.lookup 56 (.map (some bm)) (.string sh) false).run Tryz.prog W = .ok (.int .i64 (a2 : Nat)) W) := by
          intro W hWh
          obtain ⟨c, hrun, hat, _⟩ := (mapAt (W := W) hown (by rw [hWh])).lookup_int keyedS Tryz.underlying56 Tryz.underlying3 (zeroI _) hkh
          rw [hath] at hat
          injection hat with e1; injection e1 with e2 e3
          rw [e3]; exact hrun
        have lx0 := HLX.out W' rfl
        have lx1 := HLX.out W'.drew rfl
        have lh1 := HLH.out W'.drew rfl
        gi_wp2_with fail
        refine wpIn_mono (Q := fun e a5 w5 => e = Exit.normal ∧ a5 = { tmps := #[.map (some bm), .slice (some ⟨g0, 0, none⟩) rs.length vc, .pointer (some ⟨w.heap.size, 0, none⟩), undef, .bool false, .pointer (some ⟨w.heap.size + 1, 0, none⟩), undef, .pointer (some ⟨wr.heap.size, 0, none⟩), .pointer (some ⟨wb.heap.size, 0, none⟩), .int .i64 (kd : Nat), .pointer (some ⟨Bx, 0, none⟩), .int .i64 (IntKind.i64.wrap ((a1 : Nat) + (kd : Nat))), .slice (some ⟨g0, 0, none⟩) rs.length vc, .int .i64 (rs.length : Nat), .int .i64 (k : Nat), .bool true, .pointer (some ⟨g0, k * 4, none⟩), .agg #[.string sh, .slice aa r.head.args.length ac, .int .i64 (r.head.place : Nat), .slice ba r.body.length bc], .pointer (some ⟨wr.heap.size, 0, none⟩), .pointer (some ⟨wr.heap.size, 0, none⟩), .string sh, .agg #[.string sh, .slice aa r.head.args.length ac, .int .i64 (r.head.place : Nat), .slice ba r.body.length bc], .func (.func 96) #[] #[.pointer (some ⟨wc.heap.size, 0, none⟩)], .int .i64 (kd : Nat), x.atomV, .map (some bm), .pointer (some ⟨Bx, 0, none⟩), .string sx, .int .i64 (a1 : Nat), .int .i64 (kd : Nat), .int .i64 (kd : Nat), .int .i64 (IntKind.i64.wrap ((a1 : Nat) + (kd : Nat))), u32, u33, u34, u35, u36, u37, u38, u39, u40, undef], defers := [] } ∧ w5 = W'.drew) ?reg ?rest
        case reg =>
          gi_region_with_o (refine ⟨trivial, fun h => (by cases h), ?_⟩; refine (CallsIn.inRound l' (callsIn_wide.2 (step_any kd _ hkd))).mono ?_; rintro e w' ⟨rfl, rfl⟩)
          all_goals exact ⟨rfl, rfl, rfl⟩
        case rest =>
          rintro e a5 w5 ⟨rfl, rfl, rfl⟩
          have hwr : IntKind.i64.wrap ((a1 : Int) + (kd : Int)) = (a1 : Int) + (kd : Int) := IntWalk.i64_in _ (by omega)
          rw [hwr]
          have md : W'.drew.cell? ⟨w.heap.size, 0, none⟩ = some (.map (some bm)) := mm
          have hsd : W'.drew.cell? ⟨wb.heap.size, 0, none⟩ = some (.string sh) := hcs
          have HXD : Hid (W'.drew.heap[w.heap.size + 1]? = some (.cells #[.bool s5.2] 4)) := HX5.out
          have hownd : W'.drew.ownsMap Tryz.prog 9 (plainElem Tryz.prog 3) bm n2 D2 := mapAt hown rfl
          have HRD : Hid (Rnd (fun _ => False) W' W'.drew) := (Rnd.refl _ _).drew
          have hbx : w.heap.size + 1 < W'.drew.heap.size := (Array.getElem?_eq_some_iff.1 HXD.out).1
          generalize W'.drew = Wd at *
          have HM3 : Hid (Rnd (fun k => k = bm ∨ k = w.heap.size + 1) W' Wd) := HRD.out.mono (fun _ h => h.elim)
          have HMKD : Hid (∀ W6, Rnd (fun k => k = bm ∨ k = w.heap.size + 1) W' W6 → ∀ D ∈ Ds, W6.heap[D]? = some (.deferred (some []))) := fun W6 h6 D hD =>
            (h6.block D (Array.getElem?_eq_some_iff.1 (HMK.out D hD)).1 (by have := (HDB.out D hD).1; have := HS4.out; have := HSC.out; have := HSB.out; have := HS2.out; have := hsr; rintro (e | e) <;> omega)).trans (HMK.out D hD)
          have HCS : Hid (∀ W6, Rnd (fun k => k = bm ∨ k = w.heap.size + 1) W' W6 → W6.cell? ⟨wb.heap.size, 0, none⟩ = some (.string sh)) := fun W6 h6 => h6.cell hcs (by have := HS4.out; have := HSC.out; have := HSB.out; have := HS2.out; have := hsr; rintro (e | e) <;> omega)
          by_cases hli : a2 < a1 + kd
          · have HFD2 : Hid ((pre ++ [x]).foldl (liftX hd) st = (setN s5.1 hd (a1 + kd), true)) := by
              show _ = _; rw [HFD.out]; unfold liftX; rw [← HA1.out, ← HA2.out, ← HKD.out, if_pos hli]
            have hli2 : (a2 : Int) < (a1 : Int) + (kd : Int) := by omega
            gi_wp2_with (first
              | (gi_at_mapUpdate; refine wpListIn_mapUpdate_own _ rfl _ _ _ 56 rfl 9 3 keyedS Tryz.underlying56 _ bm n2 D2 rfl hownd (by unfold maxLen; omega) _ _ _ rfl rfl hkh _ [] (plainElem_int Tryz.underlying3 (WalkArith.wf_i64 (by omega))) ?_; intro w1 hown1 hgrow1; have g1 : Rnd (fun k => k = bm) Wd w1 := Rnd.grown hgrow1 (fun k e => by cases e; rfl); have hx1 : w1.heap[w.heap.size + 1]? = some (.cells #[.bool s5.2] 4) := (g1.block _ hbx (by omega)).trans HXD.out; have k1 : w1.cell? ⟨w.heap.size + 1, 0, none⟩ = some (.bool s5.2) := (by simp [World.cell?, hx1]); have f1 : w1.frozen? ⟨w.heap.size + 1, 0, none⟩ = false := (by simp [World.frozen?, hx1]))
              | fail)
            have r6 : Rnd (fun k => k = bm ∨ k = w.heap.size + 1) W' (w1.setCell ⟨w.heap.size + 1, 0, none⟩ (.bool true)) := (HM3.out.trans (g1.mono (fun k e => Or.inl e))).setCell (.inr (.inr rfl)) _
            have hx6 : (w1.setCell ⟨w.heap.size + 1, 0, none⟩ (.bool true)).heap[w.heap.size + 1]? = some (.cells #[.bool true] 4) := (show Boxed w1 (w.heap.size + 1) 4 (.bool s5.2) from hx1).set _
            have hcast : ((a1 + kd : Nat) : Int) = (a1 : Int) + (kd : Int) := by omega
            refine ⟨r6, HR5.out.trans r6, by rw [HFD2.out]; exact hx6, ⟨n2 + 1, _, mapAt hown1 (Below.heap_setCell _ _ _ _ (by show bm ≠ w.heap.size + 1; omega)), ?_, by simp; omega⟩, HMKD.out _ r6, HCS.out _ r6⟩
            rw [HFD2.out, ← hcast]
            exact HD5.out.put_in hd (a1 + kd) HNH.out
          · have HFD2 : Hid ((pre ++ [x]).foldl (liftX hd) st = s5) := by
              show _ = _; rw [HFD.out]; unfold liftX; rw [← HA1.out, ← HA2.out, ← HKD.out, if_neg hli]
            have hli2 : ¬ ((a2 : Int) < (a1 : Int) + (kd : Int)) := by omega
            gi_wp2
            refine ⟨HM3.out, HR5.out.trans HM3.out, by rw [HFD2.out]; exact HXD.out, ⟨n2, D2, hownd, by rw [HFD2.out]; exact HD5.out, by simp; omega⟩, HMKD.out _ HM3.out, HCS.out _ HM3.out⟩
      case done =>
        rintro D5 xs W' hD5 rfl ⟨hr5, hx5, ⟨n2, D2, hm5, hd5, hn5⟩, hmk, -⟩ hdd
        have e1 : (bodyX r.body (V k)).foldl (liftX hd) st = liftR (rs.take (k + 1)) (f, false) := by rw [HTK.out]; exact liftX_body hd r.body (V k) st HPV.out.len
        rw [e1] at hx5 hd5
        have e2 : (bodyX r.body (V k)).length ≤ r.body.length := by
          unfold bodyX; rw [List.length_map]
          refine Nat.le_trans (List.length_filter_le _ _) ?_
          rw [List.length_zip]; omega
        have HX5 := hide hx5
        have HM5 := hide hm5
        have HD5 := hide hd5
        have HR5 := hide hr5
        have HND2 : Hid ((D5 :: Ds).Nodup) := List.nodup_cons.2 ⟨fun hin => by have := (HDB.out D5 hin).2; omega, HND.out⟩
        have HDD : Hid (∀ E ∈ D5 :: Ds, W2.heap.size ≤ E ∧ W'.heap[E]? = some (.deferred (some []))) := fun E hE => by
          rcases List.mem_cons.1 hE with rfl | hE
          · exact ⟨by have := HS4.out; have := HSC.out; have := HSB.out; have := HS2.out; have := hsr; omega, hdd⟩
          · exact ⟨(HDB.out E hE).1, hmk E hE⟩
        have hn6 : n2 ≤ nn + (k + 1) * 1000000 := by omega
        clear hx5 hm5 hd5 hr5 hmk hdd hn5 e1 e2
        gi_wp2
        refine ⟨⟨k + 1, D5 :: Ds, _, _, _, _, _, _, _, _, _, _, _, _, _, _, _, _, _, _, _, _, _, _, _, _, _, _, _, _, _, _, _, n2, D2, by omega, HX5, HM5, HD5, hn6, HR5, HND2, HDD, rfl⟩, ?_⟩
        simp [intOf]; omega
      case stop =>
        rintro D5 c pre W' hD5 hpre h hdd
        exact h.elim
    · obtain rfl : k = rs.length := by omega
      rw [List.take_length] at HXK HDK
      have kx : wr.cell? ⟨w.heap.size + 1, 0, none⟩ = some (.bool (liftR rs (f, false)).2) := by have := HXK.out; simp [World.cell?, this]
      gi_wp2
      refine leaves_marks (B := W2.heap.size) Ds wr HND.out HDS.out (fun W6 hb6 => ?_)
      refine ⟨_, results_tmp rfl _ _ _, rfl, ⟨nk, Dk, mapAt HMK.out (hb6.block _ (by have := HS2.out; omega)), HDK.out, hnk⟩, ?_⟩
      have r1 : Rnd (fun k => k = bm ∨ k = w.heap.size + 1) W2 W6 := low_rnd (β := Unit) (Nat.le_refl _) () _ _ HRW.out hb6
      have r2 := (HR2.out.mono (M' := fun k => k = bm ∨ k = w.heap.size + 1) (fun _ h => h.elim)).trans r1
      exact ⟨r2.os, r2.tape, r2.output, r2.size, fun q hq hm => r2.block q hq (by rintro (e | e); exact hm e; omega)⟩
end Go.Proofs.YtgllfcoafgphbaaGreatDoor
