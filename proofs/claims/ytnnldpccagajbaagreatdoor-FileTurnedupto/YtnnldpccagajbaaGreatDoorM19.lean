import Derived.Test.YtnnldpccagajbaaGreatDoorM18
/-
  The document's related, walked.
-/
namespace Go.Proofs.YtnnldpccagajbaaGreatDoor
open Go.ChangeShapes Go.WideShapes Go.ChangeAt Go.RowKit
set_option linter.unusedVariables false
theorem fill_len (all : List (List UInt8)) (m : Nat) (last : Int) (rows o : List (List (List UInt8))) (s t : List UInt8) (h : fill all last rows s = some (o, t)) (hm : ∀ r ∈ rows, r.length = m) : o.length = rows.length ∧ ∀ r ∈ o, r.length = m + 1 := by
  induction rows generalizing last s o with
  | nil => rw [fill] at h; cases h; simp
  | cons r rest ih =>
    cases hu : uv 0 0 s with
    | none => rw [fill_none _ _ _ _ _ hu] at h; cases h
    | some q =>
      obtain ⟨n, k⟩ := q
      by_cases ho : last + unfold n < 0 ∨ (all.length : Int) ≤ last + unfold n
      · rw [fill_out _ _ _ _ _ n k hu ho] at h; cases h
      · rw [fill_next _ _ _ _ _ n k hu ho] at h
        cases hf : fill all (last + unfold n) rest (s.drop k) with
        | none => rw [hf] at h; cases h
        | some q2 =>
          obtain ⟨o2, t2⟩ := q2
          rw [hf] at h
          cases h
          obtain ⟨h1, h2⟩ := ih _ _ _ hf (fun x hx => hm x (by simp [hx]))
          refine ⟨by simp [h1], fun x hx => ?_⟩
          rcases List.mem_cons.1 hx with rfl | hx
          · simp [hm r (by simp)]
          · exact h2 x hx
/-- what 'related' answers -/
def RelatedR (base : Nat) (r : Option (List UInt8 × Nat × List (List (List UInt8)))) (e : Ending) (w' : World) : Prop := match r with
  | none => e = .returned (.tuple #[.agg #[.string (str []), .int .i64 0, .slice none 0 0], .bool false])
  | some (name, ar, rows) => ∃ v us, e = .returned (.tuple #[.agg #[.string (str name), .int .i64 (ar : Nat), v], .bool true]) ∧ Deep base w' v us rows
theorem related_none {base : Nat} {r : Option (List UInt8 × Nat × List (List (List UInt8)))} {w' : World} (h : r = none) : RelatedR base r (.returned (.tuple #[.agg #[.string (str []), .int .i64 0, .slice none 0 0], .bool false])) w' := by subst h; rfl
theorem related_some {base : Nat} {r : Option (List UInt8 × Nat × List (List (List UInt8)))} {w' : World} {name : List UInt8} {ar : Nat} {rows : List (List (List UInt8))} {v : Value} {us : List Value} (h : r = some (name, ar, rows)) (hd : Deep base w' v us rows) : RelatedR base r (.returned (.tuple #[.agg #[.string (str name), .int .i64 (ar : Nat), v], .bool true])) w' := by
  subst h; exact ⟨v, us, rfl, hd⟩
theorem arOf_none (p : List UInt8) (h : headOf p = none) : arOf p = 0 := by unfold arOf; rw [h]
theorem arOf_some (p name : List UInt8) (ar n : Nat) (h : headOf p = some (name, ar, n)) : arOf p = ar := by unfold arOf; rw [h]
theorem headOf_bd (p name : List UInt8) (ar n : Nat) (h : headOf p = some (name, ar, n)) : ar ≤ 8 ∧ n ≤ 2000 ∧ isName name = true := by
  unfold headOf at h
  split at h
  · cases h
  · split at h
    · cases h
    · split at h
      · cases h
      · split at h
        · cases h
        · split at h
          · cases h
          · split at h
            · rename_i hx; cases h; exact ⟨by omega, hx.2.2, hx.1⟩
            · cases h
theorem nil_owned (w : World) (B : Nat) : w.ownsRow B 9 1 (.slice none 0 0) ([] : List (List UInt8)).length (ts []) := World.ownsRow_nil _ _ _ _
theorem Deep.nil (base : Nat) (w : World) : Deep base w (.slice none 0 0) [] [] := ⟨World.ownsRow_nil _ _ _ _, rfl, fun i x r hx => by simp at hx⟩
/-- the box of a relation that is to be answered -/
structure RBox (w : World) (b : Nat) : Prop where
  c0 : w.cell? ⟨b, 0, none⟩ = some (.string { data := #[] })
  c1 : w.cell? ⟨b, 1, none⟩ = some (.int .i64 0)
  c2 : w.cell? ⟨b, 2, none⟩ = some (.slice none 0 0)
  f0 : w.frozen? ⟨b, 0, none⟩ = false
  f1 : w.frozen? ⟨b, 1, none⟩ = false
  f2 : w.frozen? ⟨b, 2, none⟩ = false
theorem RBox.new (w : World) (t : TypeId) : RBox (w.alloc (.cells #[.string { data := #[] }, .int .i64 0, .slice none 0 0] t)) w.heap.size :=
  ⟨by simp, by simp, by simp, World.frozen?_alloc_at _ _ _ _ rfl, World.frozen?_alloc_at _ _ _ _ rfl, World.frozen?_alloc_at _ _ _ _ rfl⟩
theorem RBox.kept {w w' : World} {b B : Nat} (h : RBox w b) (hb : Below B w w') (hlt : b < B) : RBox w' b :=
  ⟨(hb.cell (p := ⟨b, 0, none⟩) hlt).trans h.c0, (hb.cell (p := ⟨b, 1, none⟩) hlt).trans h.c1, (hb.cell (p := ⟨b, 2, none⟩) hlt).trans h.c2, (hb.frozen (p := ⟨b, 0, none⟩) hlt).trans h.f0, (hb.frozen (p := ⟨b, 1, none⟩) hlt).trans h.f1, (hb.frozen (p := ⟨b, 2, none⟩) hlt).trans h.f2⟩
theorem own_setOut {w : World} {base : Nat} {e : TypeId} {size : Nat} {v : Value} {n : Nat} {xs : List Value} (h : w.ownsRow base e size v n xs) {a : Addr} (ha : a.block < base) (u : Value) : (w.setCell a u).ownsRow base e size v n xs := by
  refine h.kept (row := some a.block) ⟨rfl, rfl, rfl, by simp [World.setCell], fun k _ hk => Below.heap_setCell w a u k (fun e => hk (by rw [e]))⟩ ?_
  cases hv : v.ownBlock with
  | none => exact Or.inl rfl
  | some g =>
    refine Or.inr (fun e => ?_)
    cases e
    have := (h.lt _ hv).1
    omega
theorem Deep.setOut {base : Nat} {w : World} {v : Value} {vs : List Value} {L : List (List (List UInt8))} (h : Deep base w v vs L) {a : Addr} (ha : a.block < base) (u : Value) : Deep base (w.setCell a u) v vs L :=
  ⟨own_setOut h.1 ha u, h.2.1, fun i x r hx hr => own_setOut (h.2.2 i x r hx hr) ha u⟩
theorem Deep.lower {base base2 : Nat} {w : World} {v : Value} {vs : List Value} {L : List (List (List UInt8))} (h : Deep base w v vs L) (hb : base2 ≤ base) : Deep base2 w v vs L :=
  ⟨own_mono h.1 hb, h.2.1, fun i x r hx hr => own_mono (h.2.2 i x r hx hr) hb⟩
/-- the box filled -/
def boxed (w : World) (b : Nat) (x y z : Value) : World := ((w.setCell ⟨b, 0, none⟩ x).setCell ⟨b, 1, none⟩ y).setCell ⟨b, 2, none⟩ z
theorem boxed_below {w w' : World} {b B : Nat} (h : Below B w w') (hb : B ≤ b) (x y z : Value) : Below B w (boxed w' b x y z) :=
  ((h.setCell (p := ⟨b, 0, none⟩) hb x).setCell (p := ⟨b, 1, none⟩) hb y).setCell (p := ⟨b, 2, none⟩) hb z
theorem boxed_deep {base : Nat} {w : World} {v : Value} {vs : List Value} {L : List (List (List UInt8))} {b : Nat} (h : Deep base w v vs L) (hb : b < base) (x y z : Value) : Deep base (boxed w b x y z) v vs L :=
  ((h.setOut (a := ⟨b, 0, none⟩) hb x).setOut (a := ⟨b, 1, none⟩) hb y).setOut (a := ⟨b, 2, none⟩) hb z
set_option maxRecDepth 100000 in
set_option maxHeartbeats 4000000 in
theorem rrelated_any (v : Value) (p0 p1 : List UInt8) (cols : List (List UInt8)) (w : World) (h : Strs w v (p0 :: p1 :: cols)) (hc : cols.length = arOf p0) (hp : ∀ p ∈ p0 :: p1 :: cols, p.length ≤ 1048576) :
    Calls Tryz.prog 23 #[v] w fun e w' => RelatedR w.heap.size (related true (p0 :: p1 :: cols)) e w' ∧ Below w.heap.size w w' := by
  obtain ⟨i0, hi, hz0, hz1, hz2⟩ := info_parts infoRow
  obtain ⟨vb, vo, vc, rfl, HV⟩ : ∃ b off cap, v = .slice (some ⟨b, off, none⟩) (cols.length + 2) cap ∧ Hid (∀ (i : Nat) (x : List UInt8), (p0 :: p1 :: cols)[i]? = some x → w.cell? ⟨b, off + i, none⟩ = some (.string (str x))) := by
    obtain ⟨a, cap, rfl, h⟩ := h
    rcases h with ⟨h0, -⟩ | ⟨b, off, rfl, hh⟩
    · cases h0
    · exact ⟨b, off, cap, rfl, hh⟩
  have HP : Hid (∀ p ∈ p0 :: p1 :: cols, p.length ≤ 1048576) := hp
  have v0 := HV.out 0 p0 rfl
  rw [Nat.add_zero] at v0
  have hbv : vb < w.heap.size := World.block_lt_of_cell? w ⟨vb, vo, none⟩ v0
  have z0 : (str p0).size ≤ 1048576 := by rw [str_size]; exact hp p0 (by simp)
  have z1 : (str p1).size ≤ 1048576 := by rw [str_size]; exact hp p1 (by simp)
  have HC : Hid (cols.length = arOf p0) := hc
  clear h hp hc
  go_enter Tryz.func23, Tryz.ntmps23
  go_wp2_with fail
  obtain ⟨W0, HW0⟩ : ∃ W0, Hid (W0 = w.alloc (.cells #[.string { data := #[] }, .int .i64 0, .slice none 0 0] 28)) := ⟨_, rfl⟩
  have HB0 : Hid (Below w.heap.size w W0) := by rw [HW0.out]; exact (Below.refl _ _).alloc (Nat.le_refl _) _
  have HZ0 : Hid (W0.heap.size = w.heap.size + 1) := by show _ = _; rw [HW0.out]; simp
  have HX0 : Hid (RBox W0 w.heap.size) := by rw [HW0.out]; exact RBox.new _ _
  rw [← HW0.out]
  clear HW0 v0
  have hbW : vb < W0.heap.size := by have := HZ0.out; omega
  have hwW : w.heap.size < W0.heap.size := by have := HZ0.out; omega
  have HV0 : Hid (∀ (i : Nat) (x : List UInt8), (p0 :: p1 :: cols)[i]? = some x → W0.cell? ⟨vb, vo + i, none⟩ = some (.string (str x))) := fun i x hx => (HB0.out.cell (p := ⟨vb, vo + i, none⟩) hbv).trans (HV.out i x hx)
  refine (rheaded_any (str p0) _ (by omega)).mono ?_
  rintro e w1 ⟨hh, rfl⟩
  rw [data_str] at hh
  have v1 := HV0.out 1 p1 rfl
  cases hhd : headOf p0 with
  | none =>
    rw [hhd] at hh
    obtain ⟨hx, hy, hz, rfl⟩ := hh
    have HF : Hid (related true (p0 :: p1 :: cols) = none) := by show _ = _; unfold related; simp only; rw [hhd]
    clear hhd
    go_wp2_with fail
    refine (ropen_any (str p1) _ (by omega)).mono ?_
    rintro e w2 ⟨ho, hb2⟩
    rw [data_str] at ho
    have HB2 : Hid (Below w.heap.size w w2) := HB0.out.trans (hb2.mono (Nat.le_of_lt hwW))
    obtain ⟨k0, k1, k2, f0, f1, f2⟩ := HX0.out.kept hb2 hwW
    clear hb2
    cases hop : open_ p1 with
    | none =>
      rw [hop] at ho
      have he : e = .returned (.tuple #[.slice none 0 0, .bool false]) := ho
      subst he
      clear ho hop
      go_wp2
      refine bodyPost_ret (v := .tuple #[.agg #[.string { data := #[] }, .int .i64 0, .slice none 0 0], .bool false]) (by simp [results, Tryz.results23, go_sem, k0, k1, k2]) rfl ⟨related_none HF.out, ?_⟩
      exact boxed_below HB2.out (Nat.le_refl _) _ _ _
    | some all =>
      rw [hop] at ho
      obtain ⟨va, rfl, hoa⟩ := ho
      obtain ⟨aa, ac, rfl⟩ := ownShape hoa
      clear hop hoa
      go_wp2
      refine bodyPost_ret (v := .tuple #[.agg #[.string { data := #[] }, .int .i64 0, .slice none 0 0], .bool false]) (by simp [results, Tryz.results23, go_sem, k0, k1, k2]) rfl ⟨related_none HF.out, ?_⟩
      exact boxed_below HB2.out (Nat.le_refl _) _ _ _
  | some hq =>
    obtain ⟨name, ar, n⟩ := hq
    rw [hhd] at hh
    have he : e = .returned (.tuple #[.string (str name), .int .i64 (ar : Nat), .int .i64 (n : Nat), .bool true]) := hh
    subst he
    obtain ⟨har, hn, -⟩ := headOf_bd _ _ _ _ hhd
    have HCA : Hid (cols.length = ar) := by show _ = _; rw [HC.out, arOf_some _ _ _ _ hhd]
    have HF0 : Hid (related true (p0 :: p1 :: cols) = match open_ p1 with
      | none => none
      | some all => match fillAll true all cols (List.replicate n []) with
        | none => none
        | some rows => some (name, ar, rows)) := by show _ = _; unfold related; simp only; rw [hhd]; rfl
    clear hh hhd
    go_wp2_with fail
    refine (ropen_any (str p1) _ (by omega)).mono ?_
    rintro e w2 ⟨ho, hb2⟩
    rw [data_str] at ho
    have HB2 : Hid (Below w.heap.size w w2) := HB0.out.trans (hb2.mono (Nat.le_of_lt hwW))
    have HB2' : Hid (Below W0.heap.size W0 w2) := hb2
    have HX2 : Hid (RBox w2 w.heap.size) := HX0.out.kept hb2 hwW
    clear hb2 v1
    cases hop : open_ p1 with
    | none =>
      rw [hop] at ho
      have he : e = .returned (.tuple #[.slice none 0 0, .bool false]) := ho
      subst he
      have HF : Hid (related true (p0 :: p1 :: cols) = none) := by show _ = _; rw [HF0.out, hop]
      clear ho hop
      obtain ⟨k0, k1, k2, f0, f1, f2⟩ := HX2.out
      go_wp2
      refine bodyPost_ret (v := .tuple #[.agg #[.string { data := #[] }, .int .i64 0, .slice none 0 0], .bool false]) (by simp [results, Tryz.results23, go_sem, k0, k1, k2]) rfl ⟨related_none HF.out, ?_⟩
      exact boxed_below HB2.out (Nat.le_refl _) _ _ _
    | some all =>
      rw [hop] at ho
      obtain ⟨va, rfl, hoa⟩ := ho
      obtain ⟨aa, ac, rfl⟩ := ownShape hoa
      have HOA : Hid (w2.ownsRow W0.heap.size 9 1 (.slice aa all.length ac) all.length (ts all)) := hoa
      have hall : all.length ≤ 1048576 := by
        have h1 := (open_good _ _ hop).2
        have h2 := z1
        rw [str_size] at h2
        omega
      have HF1 : Hid (related true (p0 :: p1 :: cols) = (fillAll true all cols (List.replicate n [])).map fun rows => (name, ar, rows)) := by
        show _ = _; rw [HF0.out, hop]; simp only
        cases fillAll true all cols (List.replicate n []) <;> rfl
      clear hop hoa HF0
      have hz2s : W0.heap.size ≤ w2.heap.size := HB2'.out.size
      go_wp2
      go_loopw [10, 11] (fun lv iv wr => ∃ (k : Nat) (us : List Value), k ≤ n ∧ iv = .int .i64 k ∧ Hid (us.length = k) ∧ Hid (Deep w2.heap.size wr lv us (List.replicate k [])) ∧ Hid (Below w2.heap.size w2 wr)) (fun _ iv _ => n - (intOf iv).toNat)
      case atStart => exact ⟨0, [], by omega, rfl, rfl, Deep.nil _ _, Below.refl _ _⟩
      case round =>
        obtain ⟨k, us, hk, rfl, HUL, HD, HB⟩ := hrel
        obtain ⟨a3, c3, hv3⟩ := ownShape HD.out.1
        subst hv3
        by_cases hlt : k < n
        · have hown3 := HD.out.1
          have hul : us.length ≤ 1048576 := by have := HUL.out; omega
          have hsz : w2.heap.size ≤ wr.heap.size := HB.out.size
          go_wp2_with (at_builtin; refine wpList_append_own _ rfl _ _ 22 rfl w2.heap.size 45 i0 (.slice none 0 0) 1 24 Tryz.underlying22 hi hz0 hz1 hz2 rfl (by decide) _ _ _ rfl (hown3.alloc _) ⟨wr.heap.size, 0, none⟩ 1 1 [.slice none 0 0] rfl rfl ?d1 ?d2 ?d3 ?d4 ?d5 ?_)
          case d1 =>
            intro j' u hj'
            match j', hj' with
            | 0, hj' => simp at hj'; subst hj'; exact World.cell?_alloc_at _ _ _ _ rfl
          case d2 => intro u hu; simp at hu; subst hu; rfl
          case d3 => unfold maxLen; omega
          case d4 => omega
          case d5 => simp; omega
          intro v3 w3 hown4 hg3 _
          have HD3 : Hid (Deep w2.heap.size w3 v3 (us ++ [.slice none 0 0]) (List.replicate (k + 1) [])) := by
            rw [List.replicate_succ']
            exact HD.out.snoc (nil_owned _ w2.heap.size) (Nat.le_refl _) (by rw [List.length_append]; exact hown4) hg3
          have HB3 : Hid (Below w2.heap.size w2 w3) := grown_own HB.out hown3 hg3
          have HU3 : Hid ((us ++ [Value.slice none 0 0]).length = k + 1) := by show _ = _; rw [List.length_append, HUL.out]; rfl
          clear hown4 hg3 hown3
          go_wp2
          go_roundw
          case rel => exact ⟨k + 1, _, by omega, by go_num, HU3, HD3, HB3⟩
          case measure => simp [intOf]; omega
        · obtain rfl : k = n := by omega
          go_wp2
          go_loopw [10, 12] (fun lv iv wq => ∃ (j : Nat) (us : List Value) (L : List (List (List UInt8))), j ≤ ar ∧ iv = .int .i64 j ∧ Hid (Deep w2.heap.size wq lv us L) ∧ Hid (Below w2.heap.size w2 wq) ∧ Hid (L.length = k ∧ ∀ r ∈ L, r.length = j) ∧ Hid (fillAll true all cols (List.replicate k []) = fillAll true all (cols.drop j) L)) (fun _ iv _ => ar - (intOf iv).toNat)
          case atStart => exact ⟨0, us, List.replicate k [], by omega, rfl, HD, HB, ⟨by simp, fun r hr => by rw [List.eq_of_mem_replicate hr]; rfl⟩, (rfl : _ = _)⟩
          case round =>
            obtain ⟨j, us2, L, hj, rfl, HD4, HB4, HL, HFA⟩ := hrel
            obtain ⟨a4, c4, hv4⟩ := ownShape HD4.out.1
            subst hv4
            have HBW : Hid (Below w.heap.size w wr) := HB2.out.trans (HB4.out.mono HB2.out.size)
            obtain ⟨k0, k1, k2, f0, f1, f2⟩ := HX2.out.kept HB4.out (by omega)
            by_cases hlt2 : j < ar
            · have hjc : j < cols.length := by have := HCA.out; omega
              obtain ⟨pg, HPG⟩ : ∃ pg, Hid (pg = cols[j]) := ⟨_, (rfl : cols[j] = _)⟩
              have zp : (str pg).size ≤ 1048576 := by rw [str_size, HPG.out]; exact HP.out _ (by simp)
              have hvj : wr.cell? ⟨vb, vo + (2 + j), none⟩ = some (.string (str pg)) := by
                rw [Nat.add_comm 2 j]
                have h1 := HV0.out (j + 2) cols[j] (by simp [hjc])
                rw [HPG.out]
                exact (HB4.out.cell (p := ⟨vb, vo + (j + 2), none⟩) (show vb < w2.heap.size by omega)).trans ((HB2'.out.cell (p := ⟨vb, vo + (j + 2), none⟩) hbW).trans h1)
              have HDRC : Hid (cols.drop j = pg :: cols.drop (j + 1)) := by show _ = _; rw [HPG.out]; exact List.drop_eq_getElem_cons hjc
              have HOA4 : Hid (Strs wr (.slice aa all.length ac) all) := own_strs (own_kept HOA.out HB4.out)
              have hus : us2.length ≤ 2000 := by have h1 := HD4.out.2.1; have h2 := HL.out.1; omega
              clear k0 k1 k2 f0 f1 f2
              go_wp2_with fail
              refine (rfilled_any _ _ us2 L all (str pg) _ HD4.out.rows HOA4.out (by have h2 := HL.out.1; omega) (fun r hr => by have := HL.out.2 r hr; omega) (by omega) (by omega)).mono ?_
              rintro e w5 ⟨hf, hb5⟩
              rw [data_str] at hf
              have HB5 : Hid (Below w.heap.size w w5) := HBW.out.trans (hb5.mono HBW.out.size)
              have HB5' : Hid (Below w2.heap.size w2 w5) := HB4.out.trans (hb5.mono HB4.out.size)
              have hwr : w.heap.size < wr.heap.size := by have := HB4.out.size; omega
              obtain ⟨k0, k1, k2, f0, f1, f2⟩ := (HX2.out.kept HB4.out (by omega)).kept hb5 hwr
              clear hb5 hvj
              cases hfl : fill all 0 L pg with
              | none =>
                rw [hfl] at hf
                obtain ⟨a5, n5, c5, rfl⟩ := hf
                have HF : Hid (related true (p0 :: p1 :: cols) = none) := by show _ = _; rw [HF1.out, HFA.out, HDRC.out, fillAll, hfl]; rfl
                clear hfl
                go_wp2
                refine bodyPost_ret (v := .tuple #[.agg #[.string { data := #[] }, .int .i64 0, .slice none 0 0], .bool false]) (by simp [results, Tryz.results23, go_sem, k0, k1, k2]) rfl ⟨related_none HF.out, ?_⟩
                exact boxed_below HB5.out (Nat.le_refl _) _ _ _
              | some q =>
                obtain ⟨o, t⟩ := q
                rw [hfl] at hf
                cases t with
                | cons c t =>
                  obtain ⟨a5, n5, c5, rfl⟩ := hf
                  have HF : Hid (related true (p0 :: p1 :: cols) = none) := by show _ = _; rw [HF1.out, HFA.out, HDRC.out, fillAll, hfl]; rfl
                  clear hfl
                  go_wp2
                  refine bodyPost_ret (v := .tuple #[.agg #[.string { data := #[] }, .int .i64 0, .slice none 0 0], .bool false]) (by simp [results, Tryz.results23, go_sem, k0, k1, k2]) rfl ⟨related_none HF.out, ?_⟩
                  exact boxed_below HB5.out (Nat.le_refl _) _ _ _
                | nil =>
                  obtain ⟨v5, us5, rfl, hd5⟩ := hf
                  obtain ⟨a5, c5, rfl⟩ := ownShape hd5.1
                  have HD5 : Hid (Deep w2.heap.size w5 (.slice a5 us5.length c5) us5 o) := hd5.lower HB4.out.size
                  have HL5 : Hid (o.length = k ∧ ∀ r ∈ o, r.length = j + 1) := by
                    obtain ⟨h1, h2⟩ := fill_len all j 0 L o pg [] hfl HL.out.2
                    exact ⟨h1.trans HL.out.1, h2⟩
                  have HFA5 : Hid (fillAll true all cols (List.replicate k []) = fillAll true all (cols.drop (j + 1)) o) := by
                    show _ = _
                    rw [HFA.out, HDRC.out, fillAll, hfl]
                    simp
                  clear hfl hd5
                  go_wp2
                  go_roundw
                  case rel => exact ⟨j + 1, us5, o, by omega, by go_num, HD5, HB5', HL5, HFA5⟩
                  case measure => simp [intOf]; omega
            · have HF : Hid (related true (p0 :: p1 :: cols) = some (name, ar, L)) := by
                show _ = _
                rw [HF1.out, HFA.out, List.drop_eq_nil_of_le (by have := HCA.out; omega), fillAll]; rfl
              go_wp2
              refine bodyPost_ret (v := .tuple #[.agg #[.string (str name), .int .i64 (ar : Nat), .slice a4 us2.length c4], .bool true]) (by simp [results, Tryz.results23, go_sem, k0, k1, k2]) rfl ⟨related_some HF.out ((boxed_deep HD4.out (by omega) _ _ _).lower (by omega)), ?_⟩
              exact boxed_below HBW.out (Nat.le_refl _) _ _ _
end Go.Proofs.YtnnldpccagajbaaGreatDoor
