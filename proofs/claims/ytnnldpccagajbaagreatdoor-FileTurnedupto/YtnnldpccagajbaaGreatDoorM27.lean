import Derived.Test.YtnnldpccagajbaaGreatDoorM26
/-
  The program's split, walked.
-/
namespace Go.Proofs.YtnnldpccagajbaaGreatDoor
open Go.ChangeShapes Go.WideShapes Go.ChangeAt Go.RowKit
set_option linter.unusedVariables false
/-- what 'split' answers -/
def SplitP (base : Nat) (r : Except (Nat × Nat) (List (List UInt8))) (e : Ending) (w' : World) : Prop := match r with
  | .error (er, a) => e = .returned (.tuple #[.slice none 0 0, .int .i64 (er : Nat), .int .i64 (a : Nat)])
  | .ok pages => ∃ v, e = .returned (.tuple #[v, .int .i64 0, .int .i64 0]) ∧ w'.ownsRow base 9 1 v pages.length (ts pages)
theorem split_err {base : Nat} {r : Except (Nat × Nat) (List (List UInt8))} {w' : World} {er a : Nat} (h : r = .error (er, a)) : SplitP base r (.returned (.tuple #[.slice none 0 0, .int .i64 (er : Nat), .int .i64 (a : Nat)])) w' := by subst h; rfl
theorem split_ok {base : Nat} {r : Except (Nat × Nat) (List (List UInt8))} {w' : World} {pages : List (List UInt8)} {v : Value} (h : r = .ok pages) (ho : w'.ownsRow base 9 1 v pages.length (ts pages)) : SplitP base r (.returned (.tuple #[v, .int .i64 0, .int .i64 0])) w' := by subst h; exact ⟨v, rfl, ho⟩
/-- the state of reading pages: sound, or stopped at a page -/
def SpS (bd : ByteArray) (k wt : Nat) (done : List (List UInt8)) (c : CS) (st : Int) : Prop :=
  (c.z = 0 ∧ c.a ≤ bd.size ∧ k ≤ wt ∧ wt = 2 + arOf (done.headD []) ∧ splitF bd.data.toList = splitK k c.a wt done bd.data.toList)
  ∨ (c.z ≠ 0 ∧ ∃ a : Nat, st = a ∧ splitF bd.data.toList = .error (c.z, a))
theorem page_step (bd : ByteArray) (a : Nat) (st st' : Int) (x : List UInt8) (c' : CS) (ha : a ≤ bd.size) (h : pageSt bd ⟨a, 0⟩ st = (x, c', st')) : st' = (a : Nat) ∧ ((∃ m, pageOf (from_ bd a) = .ok (x, m) ∧ c' = ⟨a + m, 0⟩ ∧ a + m ≤ bd.size) ∨ (pageOf (from_ bd a) = .error c'.z ∧ c'.z ≠ 0)) := by
  unfold pageSt at h
  simp only [ne_eq, not_true_eq_false, if_false] at h
  cases hp : pageOf (from_ bd a) with
  | error er =>
    have h1 := page_bad bd a er ha hp
    cases h
    refine ⟨rfl, Or.inr ⟨by rw [h1], ?_⟩⟩
    rw [h1]
    rcases pageOf_err _ _ hp with h2 | h2 <;> omega
  | ok q =>
    obtain ⟨t, m⟩ := q
    obtain ⟨h1, h2, h3⟩ := page_ok bd a t m ha hp
    have h4 : pageCS bd ⟨a, 0⟩ = ⟨a + m, 0⟩ := by
      unfold pageCS
      simp only [ne_eq, not_true_eq_false, if_false]
      rw [h1]
      simp only
      rw [h2]
      simp
    rw [h1, h4] at h
    cases h
    exact ⟨rfl, Or.inl ⟨m, rfl, rfl, h3⟩⟩
theorem SpS.first (bd : ByteArray) (x : List UInt8) (c' : CS) (st' : Int) (hb : 4 ≤ bd.size) (h : pageSt bd ⟨4, 0⟩ 0 = (x, c', st')) : SpS bd 1 (2 + arOf x) [x] c' st' := by
  obtain ⟨h1, ⟨m, h2, rfl, h3⟩ | ⟨h2, h3⟩⟩ := page_step bd 4 0 st' x c' hb h
  · exact Or.inl ⟨rfl, h3, by omega, rfl, splitF_first _ x m h2⟩
  · exact Or.inr ⟨h3, 4, h1, splitF_none _ _ h2⟩
theorem SpS.step {bd : ByteArray} {k wt : Nat} {done : List (List UInt8)} {c c' : CS} {st st' : Int} {x : List UInt8} (h : SpS bd k wt done c st) (hk : k < wt) (hd : done ≠ []) (hx : pageSt bd c st = (x, c', st')) : SpS bd (k + 1) wt (done ++ [x]) c' st' := by
  obtain ⟨ca, cz⟩ := c
  rcases h with ⟨h1, h2, h3, h4, h5⟩ | ⟨h1, a, h2, h3⟩
  · simp only at h1 h2 h5
    subst h1
    have hh : (done ++ [x]).headD [] = done.headD [] := by
      cases done with
      | nil => exact absurd rfl hd
      | cons y ys => rfl
    obtain ⟨g1, ⟨m, g2, rfl, g3⟩ | ⟨g2, g3⟩⟩ := page_step bd ca st st' x c' h2 hx
    · exact Or.inl ⟨rfl, g3, hk, by rw [hh]; exact h4, by rw [h5]; exact splitK_next k ca wt done _ hk x m g2⟩
    · exact Or.inr ⟨g3, ca, g1, by rw [h5]; exact splitK_error k ca wt done _ hk _ g2⟩
  · unfold pageSt at hx
    rw [if_pos h1] at hx
    cases hx
    exact Or.inr ⟨h1, a, h2, h3⟩
theorem pageSt_in (s : ByteArray) (c c' : CS) (st st' : Int) (x : List UInt8) (hp : InP s c) (h : pageSt s c st = (x, c', st')) : InP s c' ∧ x.length ≤ s.size := by
  obtain ⟨ca, cz⟩ := c
  by_cases hz : cz = 0
  · subst hz
    have ha := hp rfl
    have hx : x = (cct s ⟨ca, 0⟩).1 := by unfold pageSt at h; simp only [ne_eq, not_true_eq_false, if_false] at h; cases h; rfl
    refine ⟨?_, ?_⟩
    · obtain ⟨g1, ⟨m, g2, rfl, g3⟩ | ⟨g2, g3⟩⟩ := page_step s ca st st' x c' ha h
      · exact fun _ => g3
      · exact fun h0 => absurd h0 g3
    · rw [hx]
      exact (ctk_in s _ _ (cnum_in s ⟨ca, 0⟩ hp).1).2
  · unfold pageSt at h
    rw [if_pos hz] at h
    cases h
    exact ⟨hp, by simp⟩
theorem Tab.grown {w w' : World} {b : Nat} (h : Tab w) (hg : w.grownBy w' (some b)) (hb : 0 < b) : Tab w' := fun i hi => by
  have hb0 := hg.block 0 h.pos (by simp; omega)
  rw [World.cell?_of_block (w := w) (a := ⟨0, i, none⟩) hb0]; exact h i hi
theorem PCur.new (w : World) (s : ByteArray) (a : Nat) : PCur (w.alloc (.cells #[.string s, .int .i64 (a : Nat), .int .i64 0, .int .i64 0] 71)) w.heap.size s ⟨a, 0⟩ 0 :=
  ⟨⟨by simp, by simp, by simp, World.frozen?_alloc_at _ _ _ _ rfl, World.frozen?_alloc_at _ _ _ _ rfl⟩, by simp, World.frozen?_alloc_at _ _ _ _ rfl⟩
theorem PCur.over {w w' : World} {b : Nat} {s : ByteArray} {c : CS} {st : Int} (h : PCur w b s c st) (hb : w'.heap[b]? = w.heap[b]?) : PCur w' b s c st :=
  ⟨h.c.kept hb, by rw [World.cell?_of_block (w := w) (a := ⟨b, 3, none⟩) hb]; exact h.s3, by rw [World.frozen?_of_block (w := w) (a := ⟨b, 3, none⟩) hb]; exact h.f3⟩
theorem below_by {w w1 w' : World} {C : Nat} (h : Below w.heap.size w w1) (hg : w1.grownBy w' (some C)) (hc : w.heap.size ≤ C) : Below w.heap.size w w' := h.grown hg h.size (fun k hk => by cases hk; exact hc)
set_option maxRecDepth 100000 in
set_option maxHeartbeats 2000000 in
theorem psplit_any (d : ByteArray) (w : World) (hd8 : 8 ≤ d.size) (hd : d.size ≤ 65536) (hT : Tab w) :
    Calls Tryz.prog 18 #[.string d] w fun e w' => SplitP w.heap.size (splitF (d.data.toList.take (d.data.toList.length - 4))) e w' ∧ Below w.heap.size w w' := by
  obtain ⟨j0, hj, hy0, hy1, hy2⟩ := info_parts info9
  obtain ⟨n, hn⟩ : ∃ n : Nat, (d.size : Int) - 4 = n := ⟨d.size - 4, by omega⟩
  have hn4 : 4 ≤ n := by omega
  have hnd : n + 4 = d.size := by omega
  have HN : Hid ((d.size : Int) - 4 = n) := hn
  have hndi : (n : Int) ≤ (d.size : Int) := by omega
  obtain ⟨bd, HBD⟩ : ∃ bd, Hid (bd = d.extract 0 (d.size - 4)) := ⟨_, (rfl : d.extract 0 (d.size - 4) = _)⟩
  have zb : bd.size = n := by rw [HBD.out, ByteArray.size_extract]; omega
  have HBL : Hid (d.data.toList.take (d.data.toList.length - 4) = bd.data.toList) := by
    show _ = _
    have h1 := cut_text d 0 (d.size - 4)
    rw [from_zero, Nat.zero_add] at h1
    rw [HBD.out, h1, data_str]
    congr 1
  rw [HBL.out]
  have HTab : Hid (Tab w) := hT
  have hw0 : 0 < w.heap.size := hT.pos
  clear hn
  go_enter Tryz.func18, Tryz.ntmps18
  go_wp2_with fail
  rw [← HBD.out]
  refine (at_in bd 4 _ (by omega) (by omega)).mono ?_
  rintro e w1 ⟨rfl, hb1⟩
  have HB1 : Hid (Below w.heap.size w w1) := hb1
  have HT1 : Hid (Tab w1) := HTab.out.below hb1 hw0
  have hs1 : w.heap.size ≤ w1.heap.size := hb1.size
  clear hb1
  obtain ⟨W2, HW2⟩ : ∃ W2, Hid (W2 = w1.alloc (.cells #[.string bd, .int .i64 4, .int .i64 0, .int .i64 0] 71)) := ⟨_, rfl⟩
  have HBA : Hid (Below w1.heap.size w1 W2) := by rw [HW2.out]; exact (Below.refl _ _).alloc (Nat.le_refl _) _
  have HP2 : Hid (PCur W2 w1.heap.size bd ⟨4, 0⟩ 0) := by rw [HW2.out]; exact PCur.new w1 bd 4
  have HB2 : Hid (Below w.heap.size w W2) := HB1.out.trans (HBA.out.mono HB1.out.size)
  have HT2 : Hid (Tab W2) := HT1.out.below HBA.out (by omega)
  obtain ⟨x, c1, st1, HX1⟩ : ∃ x c1 st1, Hid (pageSt bd ⟨4, 0⟩ 0 = (x, c1, st1)) := ⟨_, _, _, rfl⟩
  have HZ2 : Hid (W2.heap.size = w1.heap.size + 1) := by show _ = _; rw [HW2.out]; simp
  go_wp2_with fail
  rw [← HW2.out]
  refine (kpage_all w1.heap.size bd ⟨4, 0⟩ c1 0 st1 x _ HP2.out (fun _ => by simp only; omega) HT2.out (by omega) (by omega) HX1).mono ?_
  rintro e w3 ⟨rfl, hp3, hg3⟩
  have HB3 : Hid (Below w.heap.size w w3) := below_by HB2.out hg3.out hs1
  have HT3 : Hid (Tab w3) := HT2.out.grown hg3.out (by omega)
  have hs3 : w1.heap.size + 1 ≤ w3.heap.size := by have := hg3.out.size; have := HZ2.out; omega
  clear hg3 HW2
  obtain ⟨hi1, hxl⟩ := pageSt_in bd _ _ _ _ _ (fun _ => by simp only; omega) HX1.out
  have HS1 : Hid (SpS bd 1 (2 + arOf x) [x] c1 st1) := SpS.first bd x c1 st1 (by omega) HX1.out
  have har8 : arOf x ≤ 8 := arOf_le x
  obtain ⟨ar, HAR⟩ : ∃ ar, Hid (ar = arOf x) := ⟨_, (rfl : arOf x = _)⟩
  rw [← HAR.out] at HS1 har8
  obtain ⟨xs, HXS⟩ : ∃ xs, Hid (xs = str x) := ⟨_, (rfl : str x = _)⟩
  have zxs : xs.size ≤ 65536 := by rw [HXS.out, str_size]; omega
  rw [← HXS.out]
  obtain ⟨W4, HW4⟩ : ∃ W4, Hid (W4 = w3.alloc (.cells #[.string xs] 9)) := ⟨_, rfl⟩
  have HZ4 : Hid (W4.heap.size = w3.heap.size + 1) := by show _ = _; rw [HW4.out]; simp
  have HBA4 : Hid (Below w3.heap.size w3 W4) := by rw [HW4.out]; exact (Below.refl _ _).alloc (Nat.le_refl _) _
  have HO4 : Hid (W4.ownsRow (w1.heap.size + 1) 9 1 (.slice (some ⟨w3.heap.size, 0, none⟩) 1 1) [x].length (ts [x])) := by
    rw [HW4.out, HXS.out]
    exact World.ownsRow_lit w3 #[.string (str x)] 1 hs3 (by decide) rfl
  go_wp2_with fail
  rw [← HW4.out]
  clear HW4
  refine (preadHead_any xs _ (by omega)).mono ?_
  rintro e w5 ⟨hh, hb5⟩
  rw [HXS.out, data_str] at hh
  obtain ⟨y, zz, er, rfl⟩ : ∃ (y : ByteArray) (zz er : Int), e = .returned (.tuple #[.agg #[.string y, .int .i64 (ar : Nat), .int .i64 zz], .int .i64 er]) := by
    cases hhd : headOf x with
    | none =>
      rw [hhd] at hh
      obtain ⟨z, -, rfl⟩ := hh
      rw [HAR.out, arOf_none x hhd]
      exact ⟨_, _, _, rfl⟩
    | some q =>
      obtain ⟨nm, a, m⟩ := q
      rw [hhd] at hh
      have he : e = .returned (.tuple #[.agg #[.string (str nm), .int .i64 (a : Nat), .int .i64 (m : Nat)], .int .i64 0]) := hh
      subst he
      rw [HAR.out, arOf_some x _ _ _ hhd]
      exact ⟨_, _, _, rfl⟩
  clear hh
  have hbA : Below w3.heap.size w3 w5 := HBA4.out.trans (hb5.mono HBA4.out.size)
  have HO5 : Hid (w5.ownsRow (w1.heap.size + 1) 9 1 (.slice (some ⟨w3.heap.size, 0, none⟩) 1 1) [x].length (ts [x])) := own_kept HO4.out hb5
  have HP5 : Hid (PCur w5 w1.heap.size bd c1 st1) := hp3.out.over (hbA.block _ (by omega))
  have HT5 : Hid (Tab w5) := HT3.out.below hbA (by omega)
  have HB5 : Hid (Below w.heap.size w w5) := HB3.out.trans (hbA.mono HB3.out.size)
  have hs5 : w3.heap.size < w5.heap.size := by have := hb5.size; have := HZ4.out; omega
  clear hb5 hbA hp3
  obtain ⟨W6, HW6⟩ : ∃ W6, Hid (W6 = w5.alloc (.cells #[.string y, .int .i64 (ar : Nat), .int .i64 zz] 74)) := ⟨_, rfl⟩
  have hbA : Below w5.heap.size w5 W6 := by rw [HW6.out]; exact (Below.refl _ _).alloc (Nat.le_refl _) _
  have HO6 : Hid (W6.ownsRow (w1.heap.size + 1) 9 1 (.slice (some ⟨w3.heap.size, 0, none⟩) 1 1) [x].length (ts [x])) := own_kept HO5.out hbA
  have HP6 : Hid (PCur W6 w1.heap.size bd c1 st1) := HP5.out.over (hbA.block _ (by omega))
  have HT6 : Hid (Tab W6) := HT5.out.below hbA (by omega)
  have HB6 : Hid (Below w.heap.size w W6) := HB5.out.trans (hbA.mono HB5.out.size)
  have HF6 : Hid (W6.cell? ⟨w5.heap.size, 1, none⟩ = some (.int .i64 (ar : Nat))) := by show _ = _; rw [HW6.out]; simp
  have hs6 : w5.heap.size < W6.heap.size := by rw [HW6.out]; simp
  clear hbA
  go_wp2
  rw [← HW6.out]
  clear HW6
  go_loopw [6] (fun pv wr => ∃ (done : List (List UInt8)) (c : CS) (st : Int), 0 < done.length ∧ done.length ≤ 10 ∧ InP bd c ∧ Hid (SpS bd done.length (2 + ar) done c st) ∧ Hid (wr.ownsRow (w1.heap.size + 1) 9 1 pv done.length (ts done)) ∧ pv.ownBlock ≠ some w5.heap.size ∧ Hid (PCur wr w1.heap.size bd c st) ∧ Hid (Tab wr) ∧ Hid (Below w.heap.size w wr) ∧ Hid (wr.cell? ⟨w5.heap.size, 1, none⟩ = some (.int .i64 (ar : Nat)))) (fun pv _ => match pv with | .slice _ n _ => 12 - n | _ => 0)
  case atStart => exact ⟨[x], c1, st1, by simp, by simp, hi1, HS1, HO6, by simp [Value.ownBlock]; omega, HP6, HT6, HB6, HF6⟩
  case round =>
    obtain ⟨done, c, st, hd0, hd10, hin, HS, HO, hob, HP, HT, HB, HF⟩ := hrel
    obtain ⟨pa, pc, hpv⟩ := ownShape HO.out
    subst hpv
    have cf := HF.out
    have hC : w1.heap.size < wr.heap.size := HP.out.c.lt
    have hFs : w5.heap.size < wr.heap.size := World.block_lt_of_cell? wr ⟨w5.heap.size, 1, none⟩ cf
    by_cases hlt : done.length < 2 + ar
    · obtain ⟨x2, c2, st2, HX2⟩ : ∃ x2 c2 st2, Hid (pageSt bd c st = (x2, c2, st2)) := ⟨_, _, _, rfl⟩
      obtain ⟨hi2, hx2l⟩ := pageSt_in bd _ _ _ _ _ hin HX2.out
      have HS2 : Hid (SpS bd (done.length + 1) (2 + ar) (done ++ [x2]) c2 st2) := HS.out.step hlt (by intro h0; rw [h0] at hd0; simp at hd0) HX2.out
      obtain ⟨sx, HSX⟩ : ∃ sx, Hid (sx = str x2) := ⟨_, (rfl : str x2 = _)⟩
      have hCne : (Value.slice pa done.length pc).ownBlock ≠ some w1.heap.size := by
        intro e0
        have := (HO.out.lt _ e0).1
        omega
      have h0ne : (Value.slice pa done.length pc).ownBlock ≠ some 0 := by
        intro e0
        have := (HO.out.lt _ e0).1
        omega
      go_wp2_with fail
      refine (kpage_all w1.heap.size bd c c2 st st2 x2 _ HP.out hin HT.out (by omega) (by omega) HX2).mono ?_
      rintro e w7 ⟨rfl, hp7, hg7⟩
      rw [← HSX.out]
      have HO7 : Hid (w7.ownsRow (w1.heap.size + 1) 9 1 (.slice pa done.length pc) done.length (ts done)) := HO.out.kept hg7.out (Or.inr hCne)
      have HT7 : Hid (Tab w7) := HT.out.grown hg7.out (by omega)
      have HB7 : Hid (Below w.heap.size w w7) := below_by HB.out hg7.out hs1
      have HF7 : Hid (w7.cell? ⟨w5.heap.size, 1, none⟩ = some (.int .i64 (ar : Nat))) := by
        show _ = _
        rw [World.cell?_of_block (w := wr) (a := ⟨w5.heap.size, 1, none⟩) (hg7.out.block _ hFs (by simp; omega))]; exact HF.out
      have hs7 : wr.heap.size ≤ w7.heap.size := hg7.out.size
      have hC7 := hp7.out.c.lt
      clear hg7 cf
      go_wp2_with (at_builtin; refine wpList_append_own_at _ rfl _ _ 45 rfl (w1.heap.size + 1) 9 j0 (.string { data := #[] }) 1 16 Tryz.underlying45 hj hy0 hy1 hy2 rfl (by decide) _ _ _ rfl (HO7.out.alloc _) ⟨w7.heap.size, 0, none⟩ 1 1 [.string sx] rfl rfl ?c1 ?c2 ?c3 ?c4 ?c5 ?_)
      case c1 =>
        intro j' u hj'
        match j', hj' with
        | 0, hj' => simp at hj'; subst hj'; exact World.cell?_alloc_at _ _ _ _ rfl
      case c2 => intro u hu; simp at hu; subst hu; rfl
      case c3 => unfold maxLen; omega
      case c4 => omega
      case c5 => simp; omega
      intro v8 w8 hown8 hg8 _ hat8
      have HO8 : Hid (w8.ownsRow (w1.heap.size + 1) 9 1 v8 (done ++ [x2]).length (ts (done ++ [x2]))) := by
        rw [HSX.out, ts_snoc] at hown8
        rw [List.length_append]; exact hown8
      have hbA : Below w7.heap.size w7 (w7.alloc (.cells #[.string sx] 9)) := (Below.refl _ _).alloc (Nat.le_refl _) _
      have hszA : (w7.alloc (.cells #[.string sx] 9)).heap.size = w7.heap.size + 1 := by simp
      have HP8 : Hid (PCur w8 w1.heap.size bd c2 st2) := (hp7.out.over (hbA.block _ hC7)).over (hg8.block _ (by omega) (fun e => hCne e.symm))
      have HT8 : Hid (Tab w8) := by
        have h1 : Tab (w7.alloc (.cells #[.string sx] 9)) := HT7.out.below hbA HT7.out.pos
        intro i hi
        rw [World.cell?_of_block (w := w7.alloc (.cells #[.string sx] 9)) (a := ⟨0, i, none⟩) (hg8.block 0 (by omega) (fun e => h0ne e.symm))]; exact h1 i hi
      have HF8 : Hid (w8.cell? ⟨w5.heap.size, 1, none⟩ = some (.int .i64 (ar : Nat))) := by
        show _ = _
        rw [World.cell?_of_block (w := w7.alloc (.cells #[.string sx] 9)) (a := ⟨w5.heap.size, 1, none⟩) (hg8.block w5.heap.size (by omega) (fun e => hob e.symm)), hbA.cell (p := ⟨w5.heap.size, 1, none⟩) (show w5.heap.size < w7.heap.size by omega)]; exact HF7.out
      have hsA : w.heap.size ≤ (w7.alloc (.cells #[.string sx] 9)).heap.size := by rw [hszA]; omega
      have HB8 : Hid (Below w.heap.size w w8) := (HB7.out.trans (hbA.mono HB7.out.size)).grown hg8 hsA (fun g hg => by have h5 := (HO7.out.lt _ hg).1; omega)
      have hob8 : v8.ownBlock ≠ some w5.heap.size := by
        rcases hat8 with h | h
        · rw [h]; exact hob
        · rw [h]; simp; omega
      have hl8 : (done ++ [x2]).length ≤ 10 := by simp; omega
      have HS8 : Hid (SpS bd (done ++ [x2]).length (2 + ar) (done ++ [x2]) c2 st2) := by rw [List.length_append]; exact HS2
      have HV8 : Hid (∃ a8 c8, v8 = .slice a8 (done ++ [x2]).length c8) := ownShape HO8.out
      clear hown8 hg8 hat8 hbA hszA
      go_wp2
      go_roundw
      case rel => exact ⟨done ++ [x2], c2, st2, by simp, hl8, hi2, HS8, HO8, hob8, HP8, HT8, HB8, HF8⟩
      case measure =>
        obtain ⟨a8, c8, rfl⟩ := HV8.out
        simp; omega
    · have HC0 : Hid (Cur wr w1.heap.size bd (c.a : Nat) (c.z : Nat)) := HP.out.c
      have s3 := HP.out.s3
      by_cases hz : c.z = 0
      · have HFD : Hid (splitF bd.data.toList = .ok done) := by
          rcases HS.out with ⟨-, -, h3, -, h5⟩ | ⟨h1, -⟩
          · rw [h5]; exact splitK_end _ _ _ _ _ (by omega)
          · exact absurd hz h1
        have hzz : ((c.z : Int) != 0) = false := by simp [hz]
        clear hz
        go_wp2_with fail
        refine (cerr_any w1.heap.size bd _ _ _ HC0.out).mono ?_
        rintro e w9 ⟨rfl, rfl⟩
        go_wp2
        go_ret3
        exact ⟨split_ok HFD.out (own_mono HO.out (by omega)), HB.out⟩
      · obtain ⟨a, rfl, HFD⟩ : ∃ a : Nat, st = a ∧ Hid (splitF bd.data.toList = .error (c.z, a)) := by
          rcases HS.out with ⟨h1, -⟩ | ⟨-, a, h2, h3⟩
          · exact absurd h1 hz
          · exact ⟨a, h2, h3⟩
        have hzz : ((c.z : Int) != 0) = true := by simp [hz]
        clear hz
        go_wp2_with fail
        refine (cerr_any w1.heap.size bd _ _ _ HC0.out).mono ?_
        rintro e w9 ⟨rfl, rfl⟩
        have HER : Hid (∀ wx : World, (∃ n, wx = wr.drewN n) → Calls Tryz.prog 40 #[.pointer (some ⟨w1.heap.size, 0, none⟩)] wx fun e w' => e = .returned (.int .i64 (c.z : Nat)) ∧ Hid (Below w.heap.size w w') ∧ w'.cell? ⟨w1.heap.size, 3, none⟩ = some (.int .i64 (a : Nat))) := by
          rintro wx ⟨n, rfl⟩
          refine (cerr_any w1.heap.size bd _ _ _ (HC0.out.drewN n)).mono ?_
          rintro e w9 ⟨rfl, rfl⟩
          exact ⟨rfl, below_drewN HB.out n, s3⟩
        go_wp2_with fail
        go_region_held3 (fun w' => w'.cell? ⟨w1.heap.size, 3, none⟩ = some (.int .i64 (a : Nat))) (go_keep) (first | (go_at_call 40; refine (HER.out _ ⟨_, rfl⟩).mono ?_; rintro e w9 ⟨rfl, HB9, k3⟩))
        all_goals go_wp2
        all_goals go_ret3
        all_goals exact ⟨split_err HFD.out, HB9.out⟩
end Go.Proofs.YtnnldpccagajbaaGreatDoor
