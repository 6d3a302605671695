/-
  The program's grouped, walked: a map of lists of rows.
-/
import Derived.Test.YtaeloanlllaphaaDoorKeysOf
import Derived.Test.YtaeloanlllaphaaDoorTake
import Derived.Maps.OwnSet
namespace Go.Proofs.YtaeloanlllaphaaDoor
open Go.ChangeShapes Go.WideShapes Go.ChangeAt Go.RowKit Go.WideMaps Go.Maps
set_option linter.unusedVariables false
/-- an element is read as itself -/
def heldR (v : Value) : Option (DataW Value × List MemPlace) := some (.held v, [])
theorem held_inv {v : Value} {d : DataW Value} {ps : List MemPlace} (h : heldR v = some (d, ps)) : d = .held v := by
  unfold heldR at h; cases h; rfl
theorem zeroRows (w : World) : (zeroValue 22).run Tryd.prog w = .ok (.slice none 0 0) w := by kernel_rfl
/-- those of the pairs whose texts in the columns have that key -/
def grp (ps : List (Value × List (List UInt8))) (cols : List Int) (k : List UInt8) : List (Value × List (List UInt8)) := ps.filter fun p => (takeL p.2 cols).map keyL == some k
theorem grp_next (ps : List (Value × List (List UInt8))) (cols : List Int) (i : Nat) (h : i < ps.length) (k : List UInt8) : grp (ps.take (i + 1)) cols k = grp (ps.take i) cols k ++ (if (takeL ps[i].2 cols).map keyL == some k then [ps[i]] else []) := by
  unfold grp
  rw [List.take_succ_eq_append_getElem h, List.filter_append]
  congr 1
  by_cases hq : (takeL ps[i].2 cols).map keyL == some k <;> simp [hq]
theorem grp_none (ps : List (Value × List (List UInt8))) (cols : List Int) (i : Nat) (h : i < ps.length) (ht : takeL ps[i].2 cols = none) (k : List UInt8) : grp (ps.take (i + 1)) cols k = grp (ps.take i) cols k := by
  rw [grp_next ps cols i h, ht]; simp
theorem grp_some (ps : List (Value × List (List UInt8))) (cols : List Int) (i : Nat) (h : i < ps.length) (t : List (List UInt8)) (ht : takeL ps[i].2 cols = some t) (k : List UInt8) : grp (ps.take (i + 1)) cols k = if k = keyL t then grp (ps.take i) cols k ++ [ps[i]] else grp (ps.take i) cols k := by
  rw [grp_next ps cols i h, ht]
  simp only [Option.map_some]
  by_cases e : k = keyL t
  · rw [if_pos e, e]; simp
  · rw [if_neg e, if_neg (by simp; exact fun h => e h.symm), List.append_nil]
theorem grp_rows (ps : List (Value × List (List UInt8))) (cols : List Int) (t : List (List UInt8)) : (grp ps cols (keyL t)).map (·.2) = partnersL (ps.map (·.2)) cols t := by
  unfold grp partnersL
  rw [List.filter_map]
  congr 1
  apply List.filter_congr
  intro p _
  simp only [Function.comp_apply]
  cases h : takeL p.2 cols with
  | none => simp
  | some q =>
    rw [Bool.eq_iff_iff, beq_iff_eq, beq_iff_eq]
    simp only [Option.map_some, Option.some.injEq]
    exact keyL_iff q t
/-- a map of lists in which each key's list lies by itself -/
def Grp (base b n : Nat) (w : World) (f : List UInt8 → List Value) : Prop :=
  ∃ (D : DataW Value) (vf : List UInt8 → Value), w.ownsMap Tryd.prog 9 heldR b n D ∧ (∀ k, D.atKey (.string k) (.held (.slice none 0 0)) = .held (vf k)) ∧ (∀ k, w.ownsRow base 33 1 (vf k) (f k).length (f k)) ∧ (∀ k k', k ≠ k' → (vf k).ownBlock = none ∨ (vf k).ownBlock ≠ (vf k').ownBlock) ∧ IsMap D
theorem ownsMap_at' {H : Type} {P : Program} {k : TypeId} {R : Value → Option (DataW H × List MemPlace)} {b n : Nat} {D : DataW H} {w W : World} (h : w.ownsMap P k R b n D) (hk : W.heap[b]? = w.heap[b]?) : W.ownsMap P k R b n D := by
  obtain ⟨es, clock, hb, r⟩ := h
  exact ⟨es, clock, hk.trans hb, r⟩
theorem ownsMap_lt' {H : Type} {P : Program} {k : TypeId} {R : Value → Option (DataW H × List MemPlace)} {b n : Nat} {D : DataW H} {w : World} (h : w.ownsMap P k R b n D) : b < w.heap.size := by
  obtain ⟨es, clock, hb, r⟩ := h
  rcases Nat.lt_or_ge b w.heap.size with h' | h'
  · exact h'
  · rw [Array.getElem?_eq_none h'] at hb; cases hb
/-- a map's block is no row's -/
theorem map_apart {H : Type} {P : Program} {k : TypeId} {R : Value → Option (DataW H × List MemPlace)} {b n base m size : Nat} {D : DataW H} {w : World} {e : TypeId} {v : Value} {xs : List Value} (h : w.ownsMap P k R b n D) (ho : w.ownsRow base e size v m xs) : some b ≠ v.ownBlock := by
  obtain ⟨es, clock, hb, r⟩ := h
  intro e
  rcases ho.2 with ⟨rfl, _⟩ | ⟨g, cap, cur, rfl, _, hg, _⟩
  · cases e
  · have : b = g := Option.some.inj e
    subst this
    rw [hb] at hg; cases hg
theorem Grp.start (base b : Nat) (w : World) (h : w.ownsMap Tryd.prog 9 heldR b 0 (.map [])) : Grp base b 0 w (fun _ => []) :=
  ⟨.map [], fun _ => .slice none 0 0, h, fun k => rfl, fun k => World.ownsRow_nil _ _ _ _, fun k k' _ => Or.inl rfl, isMap_empty⟩
theorem Grp.kept {base b n : Nat} {w w' : World} {f : List UInt8 → List Value} (h : Grp base b n w f) (hb : Below w.heap.size w w') : Grp base b n w' f := by
  obtain ⟨D, vf, h1, h2, h3, h4, h5⟩ := h
  exact ⟨D, vf, ownsMap_at' h1 (hb.block b (ownsMap_lt' h1)), h2, fun k => own_below (h3 k) hb, h4, h5⟩
set_option maxRecDepth 100000 in
theorem Grp.look {base b n : Nat} {w : World} {f : List UInt8 → List Value} (D : DataW Value) (vf : List UInt8 → Value) (hm : w.ownsMap Tryd.prog 9 heldR b n D) (hat : ∀ k, D.atKey (.string k) (.held (.slice none 0 0)) = .held (vf k)) (k : List UInt8) (hk : keyOf Tryd.prog 9 (.string (str k)) = some (.string k)) :
    (Instr.lookup 46 (.map (some b)) (.string (str k)) false).run Tryd.prog w = .ok (vf k) w := by
  obtain ⟨v, ps, hrun, hv⟩ := hm.lookup strKeyed Tryd.underlying46 (zeroRows w) (zd := .held (.slice none 0 0)) (zp := []) rfl hk
  have e := held_inv hv
  rw [hat k] at e
  injection e with e
  rw [e]; exact hrun
theorem Grp.put {base b n : Nat} {w2 w4 w5 : World} {f : List UInt8 → List Value} {D : DataW Value} {vf : List UInt8 → Value} {k0 : List UInt8} {x v4 : Value} {o : Obj} (hm : w2.ownsMap Tryd.prog 9 heldR b n D) (hat : ∀ k, D.atKey (.string k) (.held (.slice none 0 0)) = .held (vf k)) (hown : ∀ k, w2.ownsRow base 33 1 (vf k) (f k).length (f k))
    (hap : ∀ k k', k ≠ k' → (vf k).ownBlock = none ∨ (vf k).ownBlock ≠ (vf k').ownBlock) (hism : IsMap D) (hg4 : (w2.alloc o).grownBy w4 (vf k0).ownBlock) (hown4 : w4.ownsRow base 33 1 v4 ((f k0).length + 1) (f k0 ++ [x])) (hat4 : v4.ownBlock = (vf k0).ownBlock ∨ v4.ownBlock = some (w2.heap.size + 1))
    (hm4 : w4.ownsMap Tryd.prog 9 heldR b n D) (hm5 : w5.ownsMap Tryd.prog 9 heldR b (n + 1) (D.put (.string k0) (.held v4))) (hg5 : w4.grownBy w5 (some b)) : Grp base b (n + 1) w5 (fun q => if q = k0 then f q ++ [x] else f q) := by
  have keep5 : ∀ {v : Value} {m : Nat} {xs : List Value}, w4.ownsRow base 33 1 v m xs → w5.ownsRow base 33 1 v m xs := fun {v m xs} ho => ho.kept hg5 (by
    cases hv : v.ownBlock with
    | none => exact Or.inl rfl
    | some g => exact Or.inr (fun e => map_apart hm4 ho (by rw [hv, ← e])))
  have keep4 : ∀ q, q ≠ k0 → w4.ownsRow base 33 1 (vf q) (f q).length (f q) := fun q hq => ((hown q).alloc o).kept hg4 (hap q k0 hq)
  have far : ∀ q, q ≠ k0 → (vf q).ownBlock = none ∨ (vf q).ownBlock ≠ v4.ownBlock := fun q hq => by
    rcases hat4 with e | e
    · rw [e]; exact hap q k0 hq
    · rw [e]
      cases hv : (vf q).ownBlock with
      | none => exact Or.inl rfl
      | some g =>
        refine Or.inr (fun e2 => ?_)
        have h1 := ((hown q).lt g hv).2
        have h2 : g = w2.heap.size + 1 := Option.some.inj e2
        omega
  refine ⟨_, fun q => if q = k0 then v4 else vf q, hm5, fun q => ?_, fun q => ?_, fun q q' hq => ?_, hism.put _ _⟩
  · dsimp only
    by_cases e : q = k0
    · subst e
      rw [if_pos rfl]
      exact atKey_put_same hism (by simp [WideAt.IsKeyLit]) _ _
    · rw [if_neg e, atKey_put_other (by intro e2; injection e2 with e3; exact e e3)]
      exact hat q
  · by_cases e : q = k0
    · subst e
      simp only [if_pos]
      rw [List.length_append]; exact keep5 hown4
    · simp only [if_neg e]
      exact keep5 (keep4 q e)
  · dsimp only
    by_cases e : q = k0
    · subst e
      rw [if_pos rfl, if_neg (fun e2 => hq e2.symm)]
      have := far q' (fun e2 => hq e2.symm)
      cases hv : v4.ownBlock with
      | none => exact Or.inl rfl
      | some g =>
        right
        intro e3
        rcases this with h | h
        · rw [h] at e3; cases e3
        · exact h (by rw [hv]; exact e3.symm)
    · rw [if_neg e]
      by_cases e' : q' = k0
      · rw [if_pos e']; exact far q e
      · rw [if_neg e']; exact hap q q' hq
theorem Grp.more {base b n : Nat} {w : World} {f g : List UInt8 → List Value} (h : Grp base b n w f) (he : ∀ k, g k = f k) : Grp base b (n + 1) w g := by
  obtain ⟨D, vf, h1, h2, h3, h4, h5⟩ := h
  obtain ⟨es, clock, a1, a2, a3, a4⟩ := h1
  have e : g = f := funext he
  subst e
  exact ⟨D, vf, ⟨es, clock, a1, a2, by omega, a4⟩, h2, h3, h4, h5⟩
set_option maxRecDepth 100000 in
set_option maxHeartbeats 2000000 in
theorem grouped_any (v vc : Value) (vs : List Value) (rows : List (List (List UInt8))) (cols : List Int) (w : World) (h : Rows2 w v vs rows) (hc : Ints w vc cols) (ht : Tab w) (hl : rows.length ≤ 1048576) (hcl : cols.length ≤ 1048576) (hr : ∀ r ∈ rows, r.length ≤ 1048576 ∧ ∀ t ∈ r, t.length ≤ 1048576) :
    Calls Tryd.prog 28 #[v, vc] w fun e w' => e = .returned (.map (some w.heap.size)) ∧ (∃ n, Grp w.heap.size w.heap.size n w' fun k => (grp (vs.zip rows) cols k).map (·.1)) ∧ Below w.heap.size w w' := by
  have hmm := @run_makeMap Tryd.prog
  obtain ⟨i0, hi, hz0, hz1, hz2⟩ := info_parts infoRow
  have hvl := h.2.1
  have HIN : Hid (∀ (i : Nat) (x : Value) (r : List (List UInt8)), vs[i]? = some x → rows[i]? = some r → Strs w x r) := h.2.2
  obtain ⟨⟨aa, ca, rfl, hv⟩, -, -⟩ := h
  have HCV : Hid (∀ k (hk : k < vs.length), ∃ b off, aa = some ⟨b, off, none⟩ ∧ w.cell? ⟨b, off + k, none⟩ = some vs[k] ∧ b < w.heap.size) := by
    intro k hk
    rcases hv with ⟨rfl, _⟩ | ⟨b, off, rfl, hcx⟩
    · simp at hk
    · exact ⟨b, off, rfl, hcx k _ (val_at hk), World.block_lt_of_cell? w ⟨b, off + k, none⟩ (hcx k _ (val_at hk))⟩
  have HC : Hid (Ints w vc cols) := hc
  have HT : Hid (Tab w) := ht
  have HR : Hid (∀ r ∈ rows, r.length ≤ 1048576 ∧ ∀ t ∈ r, t.length ≤ 1048576) := hr
  have HZL : Hid ((vs.zip rows).length = vs.length) := by show _ = _; rw [List.length_zip]; omega
  have HVL : Hid (vs.length = rows.length) := hvl
  have hvl2 : vs.length ≤ 1048576 := by omega
  obtain ⟨cca, ccc, rfl, -⟩ := hc
  clear hv hr ht hvl
  go_enter Tryd.func28, Tryd.ntmps28
  go_wp2
  go_loopw [14] (fun iv wr => ∃ k : Nat, k ≤ vs.length ∧ iv = .int .i64 k ∧ Hid (Grp w.heap.size w.heap.size k wr fun q => (grp ((vs.zip rows).take k) cols q).map (·.1)) ∧ Hid (Below w.heap.size w wr)) (fun iv _ => vs.length - (intOf iv).toNat)
  case atStart => exact ⟨0, by omega, rfl, Grp.start _ _ _ (World.ownsMap_made _ _ _ _), (Below.refl _ _).alloc (Nat.le_refl _) _⟩
  case round =>
    obtain ⟨k, hk, rfl, HG, HB⟩ := hrel
    by_cases hlt : k < vs.length
    · have hkr : k < rows.length := by have := HVL.out; omega
      have hkz : k < (vs.zip rows).length := by have := HZL.out; omega
      obtain ⟨b, off, rfl, c0, hbw⟩ := HCV.out k hlt
      have cx := (HB.out.cell (p := ⟨b, off + k, none⟩) hbw).trans c0
      have hst := HIN.out k _ _ (val_at hlt) (row_at hkr)
      have hrk := HR.out _ (List.getElem_mem hkr)
      have HZK : Hid ((vs.zip rows)[k] = (vs[k], rows[k])) := List.getElem_zip
      have HTA : Hid (Calls Tryd.prog 30 #[vs[k], .slice cca cols.length ccc] wr fun e w' => ((∃ t v, takeL rows[k] cols = some t ∧ e = .returned (.tuple #[v, .bool true]) ∧ w'.ownsRow wr.heap.size 9 1 v t.length (ts t)) ∨ (takeL rows[k] cols = none ∧ e = .returned (.tuple #[.slice none 0 0, .bool false]))) ∧ Below wr.heap.size wr w') := take_any vs[k] _ rows[k] cols wr (hst.kept HB.out) (HC.out.kept HB.out) (by omega) (by omega)
      obtain ⟨xa, xc, hxe, -⟩ := hst
      have HXE : Hid (vs[k] = .slice xa rows[k].length xc) := hxe
      rw [hxe] at cx HTA
      clear c0 hxe
      go_wp2_with fail
      refine HTA.out.mono ?_
      rintro e w1 ⟨⟨t, vt, ht, rfl, hot⟩ | ⟨ht, rfl⟩, hb1⟩
      · have HG1 : Hid (Grp w.heap.size w.heap.size k w1 fun q => (grp ((vs.zip rows).take k) cols q).map (·.1)) := HG.out.kept hb1
        have HB1 : Hid (Below w.heap.size w w1) := HB.out.trans (hb1.mono HB.out.size)
        have htl := takeL_len _ _ _ ht
        have hkl : (keyL t).length ≤ 1099536796000 := by
          have := keyL_len t (fun x hx => hrk.2 x (takeL_mem _ _ _ ht x hx))
          have h2 : t.length * 1048600 ≤ 1048576 * 1048600 := Nat.mul_le_mul_right _ (by omega)
          omega
        have HKO : Hid (keyOf Tryd.prog 9 (.string (str (keyL t))) = some (.string (keyL t))) := by
          have := keyOf_string_mk Tryd.underlying9 (s := str (keyL t)) (by rw [str_size]; unfold maxLen; omega)
          rw [data_str] at this; exact this
        have HTT : Hid (takeL (vs.zip rows)[k].2 cols = some t) := by show _ = _; rw [HZK.out]; exact ht
        have HKY : Hid (Calls Tryd.prog 24 #[vt] w1 fun e w' => e = .returned (.string (str (keyL t))) ∧ Below w1.heap.size w1 w') := key_any vt t w1 (own_strs hot) (HT.out.kept HB1.out) (by omega) (fun x hx => hrk.2 x (takeL_mem _ _ _ ht x hx))
        clear hb1 HTA
        go_wp2_with fail
        refine HKY.out.mono ?_
        rintro e w2 ⟨rfl, hb2⟩
        have HB2 : Hid (Below w.heap.size w w2) := HB1.out.trans (hb2.mono HB1.out.size)
        obtain ⟨D, vf, hm, hat, hown, hap, hism⟩ := HG1.out.kept hb2
        have hlk := Grp.look (f := fun _ => []) (base := 0) D vf hm hat (keyL t) HKO.out
        have HM : Hid (w2.ownsMap Tryd.prog 9 heldR w.heap.size k D) := hm
        have HAT : Hid (∀ k, D.atKey (.string k) (.held (.slice none 0 0)) = .held (vf k)) := hat
        have HOW : Hid (∀ q, w2.ownsRow w.heap.size 33 1 (vf q) ((grp ((vs.zip rows).take k) cols q).map (·.1)).length ((grp ((vs.zip rows).take k) cols q).map (·.1))) := hown
        have HAP : Hid (∀ k k', k ≠ k' → (vf k).ownBlock = none ∨ (vf k).ownBlock ≠ (vf k').ownBlock) := hap
        have HIS : Hid (IsMap D) := hism
        obtain ⟨fl, HFL⟩ : ∃ fl : List Value, Hid (fl = (grp ((vs.zip rows).take k) cols (keyL t)).map (·.1)) := ⟨_, rfl⟩
        have HOV : Hid (w2.ownsRow w.heap.size 33 1 (vf (keyL t)) fl.length fl) := by rw [HFL.out]; exact hown (keyL t)
        have hfl : fl.length ≤ 1048576 := by
          rw [HFL.out, List.length_map]
          have h1 : (grp ((vs.zip rows).take k) cols (keyL t)).length ≤ ((vs.zip rows).take k).length := List.length_filter_le _ _
          rw [List.length_take] at h1; omega
        obtain ⟨kk, HKK⟩ : ∃ kk, Hid (kk = keyL t) := ⟨_, rfl⟩
        rw [← HKK.out] at hlk HOV HFL HKO
        rw [← HKK.out]
        obtain ⟨sk, HSK⟩ : ∃ sk, Hid (sk = str kk) := ⟨_, rfl⟩
        rw [← HSK.out] at hlk HKO
        rw [← HSK.out]
        obtain ⟨vk, HVK⟩ : ∃ vk, Hid (vk = vf kk) := ⟨_, rfl⟩
        rw [← HVK.out] at hlk HOV
        obtain ⟨va, vcap, hve⟩ := own_shape3 HOV.out
        subst hve
        clear hm hat hown hap hism hb2 HKY hkl
        go_wp2_with (first
          | (at_builtin; refine wpList_append_own_at _ rfl _ _ 22 rfl w.heap.size 33 i0 (.slice none 0 0) 1 24 Tryd.underlying22 hi hz0 hz1 hz2 rfl (by decide) _ _ _ rfl (HOV.out.alloc _) ⟨w2.heap.size, 0, none⟩ 1 1 [.slice xa rows[k].length xc] rfl rfl ?c1 ?c2 ?c3 ?c4 ?c5 ?_)
          | go_in)
        case c1 =>
          intro j' u hj'
          match j', hj' with
          | 0, hj' => simp at hj'; subst hj'; exact World.cell?_alloc_at _ _ _ _ rfl
        case c2 => intro u hu; simp at hu; subst hu; rfl
        case c3 => unfold maxLen; omega
        case c4 => omega
        case c5 => have := HB2.out.size; simp; omega
        intro v4 w4 hown4 hg4 _ hat4
        have hm4 : w4.ownsMap Tryd.prog 9 heldR w.heap.size k D := ownsMap_at' HM.out ((hg4.block _ (by have := ownsMap_lt' HM.out; simp; omega) (map_apart HM.out HOV.out)).trans (Below.heap_alloc _ _ _ (ownsMap_lt' HM.out)))
        have HM4 : Hid (w4.ownsMap Tryd.prog 9 heldR w.heap.size k D) := hm4
        have HB4 : Hid (Below w.heap.size w w4) := (HB2.out.alloc HB2.out.size _).grown hg4 (by have := HB2.out.size; simp; omega) (fun q hq => (HOV.out.lt q hq).1)
        have HPUT : Hid (∀ w5, w5.ownsMap Tryd.prog 9 heldR w.heap.size (k + 1) (D.put (.string kk) (.held v4)) → w4.grownBy w5 (some w.heap.size) → Grp w.heap.size w.heap.size (k + 1) w5 fun q => (grp ((vs.zip rows).take (k + 1)) cols q).map (·.1)) := by
          intro w5 h5 hg5
          have := Grp.put (f := fun q => (grp ((vs.zip rows).take k) cols q).map (·.1)) (k0 := kk) (x := .slice xa rows[k].length xc) HM.out HAT.out HOW.out HAP.out HIS.out (by rw [← HVK.out]; exact hg4) (by
            show w4.ownsRow _ _ _ _ (((grp ((vs.zip rows).take k) cols kk).map (·.1)).length + 1) ((grp ((vs.zip rows).take k) cols kk).map (·.1) ++ _)
            rw [← HFL.out]; exact hown4) (by rw [← HVK.out]; exact hat4) HM4.out h5 hg5
          have e : (fun q => if q = kk then (grp ((vs.zip rows).take k) cols q).map (·.1) ++ [Value.slice xa rows[k].length xc] else (grp ((vs.zip rows).take k) cols q).map (·.1)) = fun q => (grp ((vs.zip rows).take (k + 1)) cols q).map (·.1) := by
            funext q
            rw [grp_some (vs.zip rows) cols k hkz t HTT.out q, HKK.out]
            by_cases e : q = keyL t
            · rw [if_pos e, if_pos e, List.map_append, HZK.out, ← HXE.out]; rfl
            · rw [if_neg e, if_neg e]
          rw [← e]; exact this
        have hkey := HKO.out
        clear hown4 hg4 hat4 HM4
        go_wp2_with (first
          | (at_mapUpdate; refine wpList_mapUpdate_own _ rfl _ _ _ 46 rfl 9 22 strKeyed Tryd.underlying46 _ w.heap.size k _ rfl hm4 (by unfold maxLen; omega) _ _ _ rfl rfl hkey _ [] rfl ?_)
          | go_in)
        intro w5 hown5 hgrow5
        have R1 : Hid (Grp w.heap.size w.heap.size (k + 1) w5 fun q => (grp ((vs.zip rows).take (k + 1)) cols q).map (·.1)) := HPUT.out w5 hown5 hgrow5
        have R2 : Hid (Below w.heap.size w w5) := HB4.out.grown hgrow5 HB4.out.size (fun j hj => by cases hj; exact Nat.le_refl _)
        clear hown5 hgrow5 hm4 cx HPUT
        go_wp2
        go_roundw
        case rel => exact ⟨k + 1, by omega, by go_num, R1, R2⟩
        case measure => simp [intOf]; omega
      · have HG1 : Hid (Grp w.heap.size w.heap.size (k + 1) w1 fun q => (grp ((vs.zip rows).take (k + 1)) cols q).map (·.1)) := by
          exact (HG.out.kept hb1).more (fun q => by rw [grp_none (vs.zip rows) cols k hkz (by rw [HZK.out]; exact ht)])
        have HB1 : Hid (Below w.heap.size w w1) := HB.out.trans (hb1.mono HB.out.size)
        clear hb1 HTA
        go_wp2
        go_roundw
        case rel => exact ⟨k + 1, by omega, by go_num, HG1, HB1⟩
        case measure => simp [intOf]; omega
    · have HE : Hid (Grp w.heap.size w.heap.size k wr fun q => (grp (vs.zip rows) cols q).map (·.1)) := by
        have := HG.out
        rw [List.take_of_length_le (by have := HZL.out; omega)] at this
        exact this
      go_wp2
      go_ret
      exact ⟨rfl, ⟨k, HE.out⟩, HB.out⟩
end Go.Proofs.YtaeloanlllaphaaDoor
