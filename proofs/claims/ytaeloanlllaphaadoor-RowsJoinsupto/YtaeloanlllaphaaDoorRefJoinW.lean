/-
  The document's Join, walked.
-/
import Derived.Test.YtaeloanlllaphaaDoorRefJoin
namespace Go.Proofs.YtaeloanlllaphaaDoor
open Go.ChangeShapes Go.WideShapes Go.ChangeAt Go.RowKit
set_option linter.unusedVariables false
theorem foldl_insL_len (rows L : List (List (List UInt8))) : (rows.foldl insL L).length ≤ L.length + rows.length := by
  induction rows generalizing L with
  | nil => simp
  | cons r rest ih =>
    have h1 := ih (insL L r)
    have h2 := insL_length L r
    simp only [List.foldl_cons, List.length_cons]; omega
theorem withL_next (r : List (List UInt8)) (b : List (List (List UInt8))) (on : List (Int × Int)) (k : Nat) (h : k < b.length) : withL r (b.take (k + 1)) on = withL r (b.take k) on ++ (if goes r b[k] on then [r ++ b[k]] else []) := by
  unfold withL
  rw [List.take_succ_eq_append_getElem h, List.filter_append, List.map_append]
  congr 1
  by_cases hg : goes r b[k] on <;> simp [hg]
theorem withL_len (r : List (List UInt8)) (b : List (List (List UInt8))) (on : List (Int × Int)) : (withL r b on).length ≤ b.length := by
  unfold withL
  rw [List.length_map]; exact List.length_filter_le _ _
/-- append of texts that lie somewhere to a row of one's own -/
theorem wpList_append_strs {w : World} {ops : Array Oper} {rest : List Oper} {o : Oper} {a : Act} {Q : Exit → Act → World → Prop} (hgd : o.guard = none) (s x : Operand)
    (hop : o.op = .call { callee := .builtin .append, args := #[s, x], argTypes := #[33, 33] }) (base : Nat) (v : Value) (n : Nat) (dn : List (List UInt8)) (hs : a.eval s = v) (hown : w.ownsRow base 9 1 v n (ts dn))
    (vx : Value) (l : List (List UInt8)) (hx : a.eval x = vx) (hst : Strs w vx l) (hl : n + l.length ≤ 1099511627776) (hbase : base ≤ w.heap.size)
    (h : ∀ v' w', w'.ownsRow base 9 1 v' (n + l.length) (ts (dn ++ l)) → w.grownBy w' v.ownBlock → wpList Tryd.prog ops Q rest (a.put o.dst v') w') : wpList Tryd.prog ops Q (o :: rest) a w := by
  obtain ⟨i0, hi, hz0, hz1, hz2⟩ := info_parts info9
  have e : ts dn ++ ts l = ts (dn ++ l) := by simp [ts]
  obtain ⟨xa, xc, rfl, hc⟩ := hst
  rcases hc with ⟨rfl, hn⟩ | ⟨b, off, rfl, hc⟩
  · cases xa with
    | none =>
      obtain rfl := hn rfl
      refine wpList_append_own_none hgd s x 33 hop base 9 i0 1 Tryd.underlying33 hi v n (ts dn) hs hown hx ?_
      refine h v w ?_ ⟨rfl, rfl, rfl, Nat.le_refl _, fun _ _ _ => rfl⟩
      rw [List.append_nil]; exact hown
    | some ad =>
      refine wpList_append_own w hgd s x 33 hop base 9 i0 (.string { data := #[] }) 1 16 Tryd.underlying33 hi hz0 hz1 hz2 rfl (by decide) v n (ts dn) hs hown ad 0 xc [] hx rfl (fun j u hj => by simp at hj) (fun u hu => by simp at hu) (by unfold maxLen; simp at hl; omega) (by simp at hl; omega) hbase ?_
      intro v' w' ho hg _
      refine h v' w' ?_ hg
      rw [List.append_nil]
      simpa using ho
  · refine wpList_append_own w hgd s x 33 hop base 9 i0 (.string { data := #[] }) 1 16 Tryd.underlying33 hi hz0 hz1 hz2 rfl (by decide) v n (ts dn) hs hown ⟨b, off, none⟩ l.length xc (ts l) hx (by rw [ts_length, Nat.mul_one]) (fun j u hu => ?_) (fun u hu => by
      obtain ⟨y, _, rfl⟩ := List.mem_map.1 hu
      rfl) (by unfold maxLen; omega) (by omega) hbase ?_
    · have hj : j < l.length := by
        rcases Nat.lt_or_ge j l.length with h | h
        · exact h
        · rw [List.getElem?_eq_none (by rw [ts_length]; exact h)] at hu; cases hu
      rw [ts_at (get_at hj)] at hu
      cases hu
      rw [show (⟨b, off, none⟩ : Addr).add j = ⟨b, off + j, none⟩ from by unfold Addr.add; split <;> simp_all]
      exact hc j _ (get_at hj)
    · intro v' w' ho hg _
      refine h v' w' ?_ hg
      rw [← e]; exact ho
set_option maxRecDepth 100000 in
set_option maxHeartbeats 2000000 in
theorem rjoin_any (va vb vo : Value) (xs ys : List Value) (la lb : List (List (List UInt8))) (on : List (Int × Int)) (w : World) (ha : Rows2 w va xs la) (hb : Rows2 w vb ys lb) (ho : Prs w vo on) (hla : la.length ≤ 1048576) (hlb : lb.length ≤ 1048576) (hol : on.length ≤ 1048576)
    (hra : ∀ r ∈ la, r.length ≤ 1048576) (hrb : ∀ r ∈ lb, r.length ≤ 1048576) :
    Calls Tryd.prog 16 #[va, vb, vo] w fun e w' => (∃ v, e = .returned v ∧ AccD w.heap.size w' v (joinL la lb on)) ∧ Below w.heap.size w w' := by
  have HO : Hid (Prs w vo on) := ho
  have HRA : Hid (∀ r ∈ la, r.length ≤ 1048576) := hra
  have HRB : Hid (∀ r ∈ lb, r.length ≤ 1048576) := hrb
  obtain ⟨aa, ca, rfl, hca⟩ := rows_cell ha
  obtain ⟨ab, cb, rfl, hcb⟩ := rows_cell hb
  have HCA : Hid (∀ k (hk : k < la.length), ∃ b off x, aa = some ⟨b, off, none⟩ ∧ w.cell? ⟨b, off + k, none⟩ = some x ∧ b < w.heap.size ∧ Strs w x la[k]) := hca
  have HCB : Hid (∀ k (hk : k < lb.length), ∃ b off x, ab = some ⟨b, off, none⟩ ∧ w.cell? ⟨b, off + k, none⟩ = some x ∧ b < w.heap.size ∧ Strs w x lb[k]) := hcb
  obtain ⟨ao, co, rfl, -⟩ := ho
  have HPR : Hid (∀ i k, i < la.length → k ≤ lb.length → i * lb.length + k ≤ 1099511627776) := by
    intro i k hi hk
    have h1 : (i + 1) * lb.length ≤ 1048576 * 1048576 := Nat.mul_le_mul (by omega) (by omega)
    rw [Nat.add_mul, Nat.one_mul] at h1
    omega
  have HLN : Hid (∀ i, i ≤ la.length → ((la.take i).flatMap (fun r => withL r lb on)).length ≤ i * lb.length) := by
    intro i hi
    have := flat_len (la.take i) (fun r => withL r lb on) lb.length (fun r _ => withL_len r lb on)
    rw [List.length_take, Nat.min_eq_left hi] at this
    exact this
  clear ha hb hca hcb hra hrb
  go_enter Tryd.func16, Tryd.ntmps16
  go_wp2
  go_loopw [7, 8] (fun lv iv wr => ∃ (i : Nat) (K : List (List (List UInt8))), i ≤ la.length ∧ iv = .int .i64 i ∧ Hid (AccD w.heap.size wr lv K) ∧ Hid (K = ((la.take i).flatMap fun r => withL r lb on).foldl insL []) ∧ Hid (Below w.heap.size w wr)) (fun _ iv _ => la.length - (intOf iv).toNat)
  case atStart => exact ⟨0, [], by omega, rfl, AccD.start (Nat.le_refl _), rfl, Below.refl _ _⟩
  case round =>
    obtain ⟨i, K, hik, rfl, HA, HK, HB⟩ := hrel
    obtain ⟨pa, pc, hpe⟩ := HA.out.shape
    subst hpe
    by_cases hlt : i < la.length
    · obtain ⟨b, off, x, rfl, c0, hbw, hst⟩ := HCA.out i hlt
      have HST : Hid (Strs w x la[i]) := hst
      have HC0 : Hid (w.cell? ⟨b, off + i, none⟩ = some x ∧ b < w.heap.size) := ⟨c0, hbw⟩
      have hrl : la[i].length ≤ 1048576 := HRA.out _ (List.getElem_mem hlt)
      obtain ⟨r, HR⟩ : ∃ r, Hid (r = la[i]) := ⟨la[i], (rfl : la[i] = _)⟩
      obtain ⟨xa, xc, hxe, -⟩ := hst
      subst hxe
      rw [← HR.out] at HC0 hrl HST
      clear c0 hbw
      obtain ⟨wm, rfl⟩ : ∃ wm, wm = wr := ⟨_, rfl⟩
      go_wp2
      go_loopw [7, 9] (fun lv kv wr => ∃ (k : Nat) (K2 : List (List (List UInt8))), k ≤ lb.length ∧ kv = .int .i64 k ∧ Hid (AccD w.heap.size wr lv K2) ∧ Hid (K2 = (((la.take i).flatMap fun r => withL r lb on) ++ withL r (lb.take k) on).foldl insL []) ∧ Hid (Below w.heap.size w wr)) (fun _ kv _ => lb.length - (intOf kv).toNat)
      case atStart => exact ⟨0, K, by omega, rfl, HA, by show _ = _; rw [HK.out]; simp [withL], HB⟩
      case round =>
        obtain ⟨k, K2, hkk, rfl, HA2, HK2, HB2⟩ := hrel
        obtain ⟨qa, qc, hqe⟩ := HA2.out.shape
        subst hqe
        by_cases hltk : k < lb.length
        · obtain ⟨yb, yo, y, rfl, d0, dbw, hsy⟩ := HCB.out k hltk
          have cy := (HB2.out.cell (p := ⟨yb, yo + k, none⟩) dbw).trans d0
          have cx := (HB2.out.cell (p := ⟨b, off + i, none⟩) HC0.out.2).trans HC0.out.1
          have hsl : lb[k].length ≤ 1048576 := HRB.out _ (List.getElem_mem hltk)
          have HWN : Hid (withL r (lb.take (k + 1)) on = withL r (lb.take k) on ++ (if goes r lb[k] on then [r ++ lb[k]] else [])) := withL_next r lb on k hltk
          have hK2 : K2.length ≤ 1099511627776 := by
            have h1 := foldl_insL_len (((la.take i).flatMap fun r => withL r lb on) ++ withL r (lb.take k) on) []
            rw [← HK2.out, List.length_append] at h1
            have h2 := HLN.out i (by omega)
            have h3 := withL_len r (lb.take k) on
            rw [List.length_take] at h3
            have h4 := HPR.out i k hlt (by omega)
            simp only [List.length_nil] at h1
            omega
          have HSY : Hid (Strs wr y lb[k]) := hsy.kept HB2.out
          have HSX : Hid (Strs wr (.slice xa r.length xc) r) := HST.out.kept HB2.out
          obtain ⟨ya, yc, hye, -⟩ := hsy
          subst hye
          obtain ⟨s, HS⟩ : ∃ s, Hid (s = lb[k]) := ⟨lb[k], (rfl : lb[k] = _)⟩
          rw [← HS.out] at cy hsl HWN HSY
          have HCJ : Hid (∀ n : Nat, Calls Tryd.prog 33 #[.slice xa r.length xc, .slice ya s.length yc, .slice ao on.length co] (wr.drewN n) fun e w' => e = .returned (.bool (goes r s on)) ∧ ∃ m, w' = (wr.drewN n).drewN m) := fun n =>
            joined_any _ _ _ r s on _ (HSX.out.drewN n) (HSY.out.drewN n) ((HO.out.kept HB2.out).kept (below_drewN (Below.refl _ _) n)) (by omega) (by omega) (by omega)
          clear d0
          cases hg : goes r s on with
          | true =>
            rw [hg] at HCJ HWN
            have HKN : Hid (insL K2 (r ++ s) = (((la.take i).flatMap fun r => withL r lb on) ++ withL r (lb.take (k + 1)) on).foldl insL []) := by
              show _ = _
              rw [HWN.out, if_pos rfl, ← List.append_assoc, List.foldl_append, ← HK2.out]; rfl
            clear hg HWN
            go_wp2_with fail
            go_quiet ((go_at_call 33; refine Calls.quiet_of (HCJ.out _)))
            obtain ⟨wq, HWQ⟩ : ∃ wq, Hid (wq = wr.drewN nq) := ⟨_, rfl⟩
            have cy2 : wq.cell? ⟨yb, yo + k, none⟩ = some (.slice ya s.length yc) := by rw [HWQ.out]; exact cy
            have cx2 : wq.cell? ⟨b, off + i, none⟩ = some (.slice xa r.length xc) := by rw [HWQ.out]; exact cx
            have HAQ : Hid (AccD w.heap.size wq (.slice qa K2.length qc) K2) := by rw [HWQ.out]; exact HA2.out.grown (grown_draws _)
            have HBQ : Hid (Below w.heap.size w wq) := by rw [HWQ.out]; exact below_drewN HB2.out _
            have HSXQ : Hid (Strs wq (.slice xa r.length xc) r) := by rw [HWQ.out]; exact HSX.out.drewN _
            have HSYQ : Hid (Strs wq (.slice ya s.length yc) s) := by rw [HWQ.out]; exact HSY.out.drewN _
            have hyb2 : yb < wq.heap.size := by rw [HWQ.out]; exact World.block_lt_of_cell? wr ⟨yb, yo + k, none⟩ cy
            rw [← HWQ.out]
            clear HWQ cy cx HA2 HB2 HSX HSY
            have HN0 : Hid (wq.ownsRow wq.heap.size 9 1 (.slice none 0 0) 0 (ts [])) := World.ownsRow_nil _ _ _ _
            go_wp2_with (at_builtin; refine wpList_append_strs rfl _ _ rfl wq.heap.size _ 0 [] rfl HN0.out _ r rfl HSXQ.out (by omega) (Nat.le_refl _) ?_)
            intro v3 w3 hown3 hg3
            have HO3 : Hid (w3.ownsRow wq.heap.size 9 1 v3 r.length (ts r)) := hown3
            have HB3 : Hid (Below wq.heap.size wq w3) := (Below.refl _ _).grown hg3 (Nat.le_refl _) (fun q hq => by cases hq)
            have cy3 := (HB3.out.cell (p := ⟨yb, yo + k, none⟩) hyb2).trans cy2
            have HSY3 : Hid (Strs w3 (.slice ya s.length yc) s) := HSYQ.out.kept HB3.out
            obtain ⟨za, zc, hze⟩ := own_shape3 hown3
            subst hze
            clear hown3 hg3 cy2 cx2
            go_wp2_with (at_builtin; refine wpList_append_strs rfl _ _ rfl wq.heap.size _ _ r rfl HO3.out _ s rfl HSY3.out (by omega) HB3.out.size ?_)
            intro v4 w4 hown4 hg4
            have HO4 : Hid (w4.ownsRow w.heap.size 9 1 v4 (r ++ s).length (ts (r ++ s))) := by
              show World.ownsRow _ _ _ _ _ _ _
              rw [List.length_append]; exact own_mono hown4 HBQ.out.size
            have HB4 : Hid (Below wq.heap.size wq w4) := HB3.out.grown hg4 HB3.out.size (fun q hq => (HO3.out.lt q hq).1)
            have HA4 : Hid (AccD w.heap.size w4 (.slice qa K2.length qc) K2) := HAQ.out.kept HB4.out
            have HBW4 : Hid (Below w.heap.size w w4) := HBQ.out.trans (HB4.out.mono HBQ.out.size)
            have hrs : (r ++ s).length ≤ 140737488355328 := by rw [List.length_append]; omega
            have HRS : Hid ((r ++ s).length ≤ 140737488355328) := hrs
            clear hown4 hg4 cy3 hrs
            go_wp2_with fail
            refine (add_accD w.heap.size _ _ _ K2 (r ++ s) HA4.out HO4.out hK2 HRS.out).mono ?_
            rintro e w5 ⟨v5, rfl, hacc, hb5⟩
            have HA5 : Hid (AccD w.heap.size w5 v5 (insL K2 (r ++ s))) := hacc
            have HB5 : Hid (Below w.heap.size w w5) := HBW4.out.trans hb5
            clear hacc hb5
            go_wp2
            go_roundw
            case rel => exact ⟨k + 1, _, by omega, by go_num, HA5, HKN, HB5⟩
            case measure => simp [intOf]; omega
          | false =>
            rw [hg] at HCJ HWN
            have HKN : Hid (K2 = (((la.take i).flatMap fun r => withL r lb on) ++ withL r (lb.take (k + 1)) on).foldl insL []) := by
              show _ = _
              rw [HWN.out, if_neg (by simp), List.append_nil]; exact HK2.out
            clear hg HWN
            go_wp2_with fail
            go_quiet ((go_at_call 33; refine Calls.quiet_of (HCJ.out _)))
            go_wp2
            go_roundw
            case rel => exact ⟨k + 1, K2, by omega, by go_num, HA2.out.grown (grown_draws _), HKN, below_drewN HB2.out _⟩
            case measure => simp [intOf]; omega
        · have HE : Hid (K2 = ((la.take (i + 1)).flatMap fun r => withL r lb on).foldl insL []) := by
            show _ = _
            rw [HK2.out, List.take_of_length_le (l := lb) (by omega), List.take_succ_eq_append_getElem hlt, List.flatMap_append, HR.out]
            simp
          go_wp2
          exact ⟨⟨i + 1, K2, by omega, by go_num, HA2, HE, HB2⟩, by simp [intOf]; omega⟩
    · have HE : Hid (K = joinL la lb on) := by show _ = _; rw [HK.out, List.take_of_length_le (by omega), joinL, sortL]
      go_wp2
      go_ret
      exact ⟨⟨_, rfl, by rw [← HE.out]; exact HA.out⟩, HB.out⟩
end Go.Proofs.YtaeloanlllaphaaDoor
