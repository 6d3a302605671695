import Derived.Test.YtgllfcoafgphbaaGreatDoorM02
import Derived.Test.YtgllfcoafgphbaaGreatDoorM09
import Derived.Maps.OwnIn
import Derived.Maps.Views
/-
  How many things a text has at the most, in plain lists.
-/
namespace Go.Proofs.YtgllfcoafgphbaaGreatDoor
set_option linter.unusedVariables false
theorem listF_len {α : Type} (bg : Nat → Bool) (one : Nat → Except PErr (α × Nat)) (go : Nat → Option Nat) (P : α → Prop) (h1 : ∀ p x q, one p = .ok (x, q) → P x) : ∀ (n p : Nat) (xs : List α) (r : Nat), listF bg one go n p = .ok (xs, r) → xs.length ≤ n ∧ ∀ x ∈ xs, P x := by
  intro n
  induction n with
  | zero => intro p xs r h; unfold listF at h; split at h <;> cases h
  | succ n ih =>
    intro p xs r h
    unfold listF at h
    split at h
    · cases ho : one p with
      | error er => rw [ho] at h; cases h
      | ok v =>
        obtain ⟨y, q⟩ := v
        rw [ho] at h
        simp only [] at h
        cases hg : go q with
        | none => rw [hg] at h; cases h; exact ⟨by simp, fun x hx => by simp at hx; subst hx; exact h1 _ _ _ ho⟩
        | some r1 =>
          rw [hg] at h
          simp only [] at h
          cases hl : listF bg one go n r1 with
          | error er => rw [hl] at h; cases h
          | ok v =>
            obtain ⟨ys, r2⟩ := v
            rw [hl] at h; cases h
            obtain ⟨k1, k2⟩ := ih r1 ys r hl
            exact ⟨by simp; omega, fun x hx => by
              rcases List.mem_cons.1 hx with rfl | hx
              · exact h1 _ _ _ ho
              · exact k2 x hx⟩
    · cases h
theorem atomF_len (l : List UInt8) (p : Nat) (a : PAtom) (q : Nat) (h : atomF l p = .ok (a, q)) : a.args.length ≤ 8 := by
  unfold atomF at h
  split at h
  · split at h
    · cases h; simp
    · split at h
      · cases h
      · rename_i heq
        split at h
        · cases h
        · cases h; exact (listF_len _ _ _ (fun _ => True) (fun _ _ _ _ => trivial) _ _ _ _ heq).1
  · cases h
theorem partF_len (l : List UInt8) (p : Nat) (x : PPart) (q : Nat) (h : partF l p = .ok (x, q)) : x.atom.args.length ≤ 8 := by
  unfold partF at h
  split at h
  · split at h
    · cases h
    · rename_i heq; cases h; exact atomF_len _ _ _ _ heq
  · split at h
    · split at h
      · cases h
      · rename_i heq; cases h; exact atomF_len _ _ _ _ heq
    · split at h
      · cases h
      · split at h
        · cases h
        · split at h
          · cases h
          · cases h; simp [noAtom]
theorem partsF_len (l : List UInt8) (p : Nat) (ps : List PPart) (r : Nat) (h : partsF l p = .ok (ps, r)) : ps.length ≤ 12 ∧ ∀ x ∈ ps, x.atom.args.length ≤ 8 := listF_len _ _ _ _ (fun p x q hx => partF_len l p x q hx) _ _ _ _ h
theorem queryF_len (l : List UInt8) (ps : List PPart) (h : queryF l = .ok ps) : ps.length ≤ 12 ∧ ∀ x ∈ ps, x.atom.args.length ≤ 8 := by
  unfold queryF at h
  split at h
  · cases h
  · split at h
    · cases h
    · rename_i heq
      split at h
      · cases h
      · split at h
        · cases h; exact partsF_len _ _ _ _ heq
        · cases h
/-- a rule of no more than so much -/
def Small (r : PRule) : Prop := r.head.args.length ≤ 8 ∧ r.body.length ≤ 12 ∧ ∀ x ∈ r.body, x.atom.args.length ≤ 8
theorem ruleF_len (l : List UInt8) (p : Nat) (r : PRule) (q : Nat) (h : ruleF l p = .ok (r, q)) : Small r := by
  unfold ruleF at h
  split at h
  · cases h
  · rename_i ha
    split at h
    · cases h
    · rename_i hb
      split at h
      · cases h
      · cases h
        have h1 := atomF_len _ _ _ _ ha
        split at hb
        · cases hb; exact ⟨h1, by simp, by simp⟩
        · obtain ⟨k1, k2⟩ := partsF_len _ _ _ _ hb; exact ⟨h1, k1, k2⟩
theorem parseF_len (l : List UInt8) (rs : List PRule) (h : parseF l = .ok rs) : rs.length ≤ 200 ∧ ∀ r ∈ rs, Small r := by
  unfold parseF at h
  split at h
  · cases h
  · split at h
    · cases h; simp
    · split at h
      · cases h
      · rename_i heq; cases h; exact listF_len _ _ _ _ (fun p x q hx => ruleF_len l p x q hx) _ _ _ _ heq
end Go.Proofs.YtgllfcoafgphbaaGreatDoor

/-
  The law's own words on rules: 'sameRules', walked.
-/
namespace Go.Proofs.YtgllfcoafgphbaaGreatDoor
open Go.ChangeShapes Go.WideShapes Go.ChangeAt Go.RowKit
set_option linter.unusedVariables false
/-- the same rule, with its places or without -/
structure SameR (pl : Bool) (r q : PRule) : Prop where
  head : SameA pl r.head q.head
  body : SamePs pl r.body q.body
theorem SameR.refl (pl : Bool) (r : PRule) : SameR pl r r := ⟨SameA.refl pl _, SamePs.refl pl _⟩
/-- the same rules -/
structure SameRs (pl : Bool) (rs qs : List PRule) : Prop where
  len : rs.length = qs.length
  rules : ∀ (i : Nat) (r q : PRule), rs[i]? = some r → qs[i]? = some q → SameR pl r q
theorem SameRs.refl (pl : Bool) (rs : List PRule) : SameRs pl rs rs := ⟨rfl, fun i r q h1 h2 => by rw [h1] at h2; cases h2; exact SameR.refl pl r⟩
theorem rulesV_at : ∀ (rs : List PRule) (hs bs : List Value) (k j : Nat) (r : PRule) (h b : Value), rs[k]? = some r → hs[k]? = some h → bs[k]? = some b → j < 4 → (rulesV rs hs bs)[k * 4 + j]? = (ruleV r h b)[j]? := by
  intro rs
  induction rs with
  | nil => intro hs bs k j r h b h1; simp at h1
  | cons x rs ih =>
    intro hs bs k j r h b h1 h2 h3 hj
    cases hs with
    | nil => simp at h2
    | cons y hs =>
      cases bs with
      | nil => simp at h3
      | cons z bs =>
        cases k with
        | zero => simp at h1 h2 h3; subst h1 h2 h3; simp only [rulesV, Nat.zero_mul, Nat.zero_add]; rw [List.getElem?_append_left (by simp [ruleV]; exact hj)]
        | succ k =>
          simp only [rulesV]
          rw [List.getElem?_append_right (by simp [ruleV]; omega), ← ih hs bs k j r h b (by simpa using h1) (by simpa using h2) (by simpa using h3) hj]
          congr 1
          simp [ruleV]; omega
theorem rulesV_len : ∀ (rs : List PRule) (hs bs : List Value), hs.length = rs.length → bs.length = rs.length → (rulesV rs hs bs).length = rs.length * 4 := by
  intro rs
  induction rs with
  | nil => intro hs bs h1 h2; cases hs <;> cases bs <;> simp [rulesV] at *
  | cons r rs ih => intro hs bs h1 h2; cases hs with
    | nil => simp at h1
    | cons y hs => cases bs with
      | nil => simp at h2
      | cons z bs => simp only [rulesV, List.length_append, List.length_cons]; rw [ih hs bs (by simpa using h1) (by simpa using h2)]; simp [ruleV]; omega
/-- where rules lie -/
theorem own_rules {tT tP tR : TypeId} {base : Nat} {w : World} {v : Value} {rs : List PRule} {hs bs : List Value} (h : RulesAt tT tP tR base w v rs hs bs) : (v = .slice none 0 0 ∧ rs = []) ∨ ∃ g cap, v = .slice (some ⟨g, 0, none⟩) rs.length cap ∧ base ≤ g ∧ g < w.heap.size ∧ (∀ k r a b, rs[k]? = some r → hs[k]? = some a → bs[k]? = some b → ∀ (j : Nat) (x : Value), (ruleV r a b)[j]? = some x → w.cell? ⟨g, k * 4 + j, none⟩ = some x) ∧ ∀ i, w.frozen? ⟨g, i, none⟩ = false := by
  rcases h.own.2 with ⟨rfl, h0⟩ | ⟨g, cap, cur, rfl, hb, hg, rest⟩
  · exact Or.inl ⟨rfl, List.eq_nil_of_length_eq_zero h0⟩
  · refine Or.inr ⟨g, cap, rfl, hb, (Array.getElem?_eq_some_iff.1 hg).1, fun k r a b hr ha hb j x hx => ?_, fun i => own_soft h.own i⟩
    have hj : j < 4 := by
      rcases Nat.lt_or_ge j 4 with h | h
      · exact h
      · rw [List.getElem?_eq_none (by simp [ruleV]; omega)] at hx; cases hx
    have := h.own.cells rfl (k * 4 + j) x (by rw [rulesV_at rs hs bs k j r a b hr ha hb hj]; exact hx)
    rw [add_zero] at this; exact this
end Go.Proofs.YtgllfcoafgphbaaGreatDoor

/-
  The program's walk.Each, walked: at atoms.
-/
namespace Go.Proofs.YtgllfcoafgphbaaGreatDoor
open Go.ChangeShapes Go.WideShapes Go.ChangeAt Go.RowKit Go.Hands
set_option linter.unusedVariables false
attribute [local go_sem] Oper.semAt_some
set_option maxRecDepth 100000 in
set_option maxHeartbeats 1000000 in
theorem each_any (v : Value) (a : Option Addr) (n c f : Nat) (lb : Array Value) (w : World) (hv : v = .slice a n c) :
    Calls Tryz.prog 46 #[v, .func (.func f) #[] lb] w fun e w' => e = .returned (.func (.func 78) #[] #[.pointer (some ⟨w.heap.size, 0, none⟩), .pointer (some ⟨w.heap.size + 1, 0, none⟩)]) ∧ w' = (w.alloc (.cells #[v] 52)).alloc (.cells #[.func (.func f) #[] lb] 99) := by
  subst hv
  go_enter Tryz.func46, Tryz.ntmps46
  go_wp2
  go_ret
  exact ⟨rfl, rfl⟩
/-- what is handed out of the first rules -/
def upto {α : Type} (L : Nat → List α) (k : Nat) : List α := (List.range k).flatMap L
theorem upto_zero {α : Type} (L : Nat → List α) : upto L 0 = [] := rfl
theorem upto_succ {α : Type} (L : Nat → List α) (k : Nat) : upto L (k + 1) = upto L k ++ L k := by
  unfold upto; rw [List.range_succ, List.flatMap_append]; simp
theorem upto_prefix {α : Type} (L : Nat → List α) {k m : Nat} (h : k ≤ m) : upto L k <+: upto L m := by
  induction m with
  | zero => obtain rfl : k = 0 := by omega
            exact List.prefix_refl _
  | succ m ih =>
    by_cases e : k = m + 1
    · subst e; exact List.prefix_refl _
    · rw [upto_succ]; exact (ih (by omega)).trans (List.prefix_append _ _)
theorem Rnd.weak {M : Nat → Prop} {A B : World} (h : Rnd (fun _ => False) A B) : Rnd M A B := h.mono (fun _ h => h.elim)
set_option maxRecDepth 100000 in
set_option maxHeartbeats 4000000 in
theorem each_hands (n base Br Bo n₀ f : Nat) (lbo : Array Value) (v : Value) (rs : List PRule) (hs bs : List Value) (M : Nat → Prop) (w0 w : World) (L : Nat → List BX) (hw0 : Rnd M w0 w)
    (hbr : w.cell? ⟨Br, 0, none⟩ = some v) (hbo : w.cell? ⟨Bo, 0, none⟩ = some (.func (.func f) #[] lbo)) (hrules : RulesAt 76 164 112 base w0 v rs hs bs) (hlow : ∀ g, v.ownBlock = some g → g < n₀)
    (hM : ∀ k, M k → n₀ ≤ k ∧ k ≠ Br ∧ k ≠ Bo ∧ k < w.heap.size) (hl : rs.length ≤ 1000000) (hn1 : 9 ≤ n) (hef : ∀ args w, (callFunc f args).run Tryz.prog w = .ok (.enter f args) w)
    (hof : ∀ (i : Nat) (r : PRule) (aa : Option Addr) (ac : Nat) (ba : Option Addr) (bc : Nat) (W : World), rs[i]? = some r → hs[i]? = some (.slice aa r.head.args.length ac) → bs[i]? = some (.slice ba r.body.length bc) → Rnd M w W →
      Calls Tryz.prog f (#[.agg #[.string (str r.head.name), .slice aa r.head.args.length ac, .int .i64 (r.head.place : Nat), .slice ba r.body.length bc]] ++ lbo) W fun e W' => ∃ g lb, e = .returned (.func (.func g) #[] lb) ∧ Rnd (fun _ => False) W W' ∧ (∀ args w, (callFunc g args).run Tryz.prog w = .ok (.enter g args) w) ∧
        ∀ m, Hands Fence.wide m Tryz.prog g lb (fun x : BX => #[x.atomV]) M (fun ys => ys = L i) (fun pre => pre <+: L i) W') :
    Hands Fence.wide n Tryz.prog 78 #[.pointer (some ⟨Br, 0, none⟩), .pointer (some ⟨Bo, 0, none⟩)] (fun x : BX => #[x.atomV]) M (fun ys => ys = upto L rs.length) (fun pre => pre <+: upto L rs.length) w := by
  intro l Mx J Jx W hW hMx hJ hJx hY h0
  have HMX := hide hMx
  have HJ : Hid (Low W.heap.size J) := hJ
  have HJX : Hid (Low W.heap.size Jx) := hJx
  have HY := hide hY
  have HMM := hide hM
  have HWW := hide hW
  have HOF := hide hof
  have HLO := hide hlow
  have HEF := hide hef
  have q0 := hW.cell hbr (fun hm => (HMM.out _ hm).2.1 rfl)
  have q1 := hW.cell hbo (fun hm => (HMM.out _ hm).2.2.1 rfl)
  obtain ⟨W2, HW2⟩ : ∃ W2, Hid (W2 = W.alloc (.cells #[.func (.yield l) #[] #[]] 117)) := ⟨_, rfl⟩
  have HB2 : Hid (Below W.heap.size W W2) := by rw [HW2.out]; exact (Below.refl _ _).alloc (Nat.le_refl _) _
  have HR2 : Hid (Rnd M W W2) := by rw [HW2.out]; exact (Rnd.refl _ _).alloc _
  have y2 : W2.cell? ⟨W.heap.size, 0, none⟩ = some (.func (.yield l) #[] #[]) := by rw [HW2.out, World.cell?_alloc_at _ _ _ _ rfl]; rfl
  have HS2 : Hid (W2.heap.size = W.heap.size + 1) := by show _ = _; rw [HW2.out]; simp
  have HSW : Hid (w.heap.size ≤ W.heap.size) := hW.size
  have HJ2 : Hid (J [] W2) := HJ.out _ _ _ h0 HB2.out
  have hW2 : W.alloc (.cells #[.func (.yield l) #[] #[]] 117) = W2 := HW2.out.symm
  have s0 := HR2.out.cell q0 (fun hm => (HMM.out _ hm).2.1 rfl)
  have s1 := HR2.out.cell q1 (fun hm => (HMM.out _ hm).2.2.1 rfl)
  have hvv := own_slice hrules.own
  obtain ⟨va, HVA⟩ : ∃ a, Hid (a = sliceA v) := ⟨_, rfl⟩
  obtain ⟨vc, HVC⟩ : ∃ c, Hid (c = sliceC v) := ⟨_, rfl⟩
  rw [← HVA.out, ← HVC.out] at hvv
  have HRL := hide hrules
  have HW0 := hide hw0
  clear hW hMx hJ hJx hY h0 hM hof hlow hrules hbr hbo q0 q1 hef hw0
  rw [hvv] at s0
  refine callsIn_of_wp_marks Tryz.func78 rfl trivial ?_ rfl
  simp only [Tryz.ntmps78, List.size_toArray, List.length_cons, List.length_nil, Nat.reduceAdd, Nat.reduceSub, Array.replicate_succ, Array.replicate_zero, List.push_toArray, List.append_toArray, List.nil_append, List.cons_append]
  gi_wp2
  have hvl : ∀ k, k < rs.length → ∃ g, va = some ⟨g, 0, none⟩ ∧ g < W2.heap.size ∧ ¬ M g ∧ ∀ (r : PRule) (a b : Value), rs[k]? = some r → hs[k]? = some a → bs[k]? = some b → ∀ (j : Nat) (x : Value), (ruleV r a b)[j]? = some x → W2.cell? ⟨g, k * 4 + j, none⟩ = some x := by
    intro k hk
    rcases own_rules HRL.out with ⟨_, rfl⟩ | ⟨g, cap, hvg, _, hgw, hc, _⟩
    · simp at hk
    · have hg0 : g < n₀ := HLO.out g (by rw [hvg]; rfl)
      have hnm : ¬ M g := fun hm => by have := (HMM.out g hm).1; omega
      refine ⟨g, by rw [HVA.out, hvg]; rfl, ?_, hnm, fun r a b hr ha hb j x hx => HR2.out.cell (HWW.out.cell (HW0.out.cell (hc k r a b hr ha hb j x hx) hnm) hnm) hnm⟩
      have h1 := HW0.out.size
      have h2 := HSW.out
      have h3 := HS2.out
      omega
  have HVL := hide hvl
  clear hvl hvv HVA HVC
  refine wpIn_loop (fun a' w' => ∃ (k : Nat) (Ds : List Nat) (u5 u6 u10 u11 u12 u13 u14 u15 u16 u17 u18 u19 u20 u21 : Value), k ≤ rs.length ∧ Hid (J (upto L k) w') ∧ Hid (Rnd M W2 w') ∧ Hid (Ds.Nodup) ∧ Hid (∀ D ∈ Ds, W2.heap.size ≤ D ∧ w'.heap[D]? = some (.deferred (some []))) ∧ a' = { tmps := #[.func (.yield l) #[] #[], .pointer (some ⟨Br, 0, none⟩), .pointer (some ⟨Bo, 0, none⟩), .pointer (some ⟨W.heap.size, 0, none⟩), undef, u5, u6, .slice va rs.length vc, .int .i64 (rs.length : Nat), .int .i64 ((k : Nat) : Int), u10, u11, u12, u13, u14, u15, u16, u17, u18, u19, u20, u21], defers := Ds.map Go.Hands.mark })
    (fun a' _ => rs.length - (intOf (a'.tmps.getD 9 undef)).toNat) ?start ?round
  case start => exact ⟨0, [], _, _, _, _, _, _, _, _, _, _, _, _, _, _, by omega, HJ2, Rnd.refl _ _, List.nodup_nil, (fun D hD => by simp at hD), rfl⟩
  case round =>
    rintro a' wr ⟨k, Ds, u5, u6, u10, u11, u12, u13, u14, u15, u16, u17, u18, u19, u20, u21, hk, HJK, HRW, HND, HDS, rfl⟩
    by_cases hlt : k < rs.length
    · have hlh : k < hs.length := by have := HRL.out.lh; omega
      have hlb : k < bs.length := by have := HRL.out.lb; omega
      obtain ⟨g, rfl, hgw, hgm, hc⟩ := HVL.out k hlt
      have hrk : rs[k]? = some rs[k] := List.getElem?_eq_getElem hlt
      have hhk : hs[k]? = some hs[k] := List.getElem?_eq_getElem hlh
      have hbk : bs[k]? = some bs[k] := List.getElem?_eq_getElem hlb
      have hus := own_slice (HRL.out.heads k _ _ hrk hhk)
      obtain ⟨pvs, hpv⟩ := HRL.out.bodies k _ _ hrk hbk
      have hvs := own_slice hpv.own
      have hc2 := hc _ _ _ hrk hhk hbk
      rw [hus] at hhk
      rw [hvs] at hbk
      rw [hus, hvs] at hc2
      obtain ⟨r, HRK⟩ : ∃ r, Hid (r = rs[k]) := ⟨rs[k], (rfl : rs[k] = _)⟩
      rw [← HRK.out] at hrk hhk hbk hc2
      obtain ⟨aa, HAA⟩ : ∃ aa, Hid (aa = sliceA hs[k]) := ⟨sliceA hs[k], (rfl : sliceA hs[k] = _)⟩
      obtain ⟨ac, HAC⟩ : ∃ ac, Hid (ac = sliceC hs[k]) := ⟨sliceC hs[k], (rfl : sliceC hs[k] = _)⟩
      obtain ⟨ba, HBA⟩ : ∃ ba, Hid (ba = sliceA bs[k]) := ⟨sliceA bs[k], (rfl : sliceA bs[k] = _)⟩
      obtain ⟨bc, HBC⟩ : ∃ bc, Hid (bc = sliceC bs[k]) := ⟨sliceC bs[k], (rfl : sliceC bs[k] = _)⟩
      rw [← HAA.out, ← HAC.out] at hhk hc2
      rw [← HBA.out, ← HBC.out] at hbk hc2
      have HHK := hide hhk
      have HBK := hide hbk
      have HRR := hide hrk
      have t0 := HRW.out.cell (hc2 0 _ rfl) hgm
      rw [Nat.add_zero] at t0
      have t1 := HRW.out.cell (hc2 1 _ rfl) hgm
      have t2 := HRW.out.cell (hc2 2 _ rfl) hgm
      have t3 := HRW.out.cell (hc2 3 _ rfl) hgm
      have yw := HRW.out.cell y2 (fun hm => by have := (HMM.out _ hm).2.2.2; have := HSW.out; omega)
      have ow := HRW.out.cell s1 (fun hm => (HMM.out _ hm).2.2.1 rfl)
      have HUS : Hid (upto L (k + 1) = upto L k ++ L k) := upto_succ L k
      have HUP : Hid (upto L (k + 1) <+: upto L rs.length) := upto_prefix L hlt
      have hsr : W2.heap.size ≤ wr.heap.size := HRW.out.size
      clear hc hc2 hus hvs hpv hhk hbk hrk
      obtain ⟨wb, HWB⟩ : ∃ wb, Hid (wb = wr.alloc (.cells #[.string (str r.head.name), .slice aa r.head.args.length ac, .int .i64 (r.head.place : Nat), .slice ba r.body.length bc] 112)) := ⟨_, rfl⟩
      have HRB : Hid (Rnd (fun _ => False) wr wb) := by rw [HWB.out]; exact (Rnd.refl _ _).alloc _
      have ob := HRB.out.cell ow (fun h => h)
      have b0 : wb.cell? ⟨wr.heap.size, 0, none⟩ = some (.string (str r.head.name)) := by rw [HWB.out, World.cell?_alloc_at _ _ _ _ rfl]; rfl
      have b1 : wb.cell? ⟨wr.heap.size, 1, none⟩ = some (.slice aa r.head.args.length ac) := by rw [HWB.out, World.cell?_alloc_at _ _ _ _ rfl]; rfl
      have b2 : wb.cell? ⟨wr.heap.size, 2, none⟩ = some (.int .i64 (r.head.place : Nat)) := by rw [HWB.out, World.cell?_alloc_at _ _ _ _ rfl]; rfl
      have b3 : wb.cell? ⟨wr.heap.size, 3, none⟩ = some (.slice ba r.body.length bc) := by rw [HWB.out, World.cell?_alloc_at _ _ _ _ rfl]; rfl
      have hwb := HWB.out.symm
      have hef := HEF.out
      gi_wp2_with fail
      clear b0 b1 b2 b3 t0 t1 t2 t3 hwb hef
      refine ⟨trivial, fun h => (by cases h), ?_⟩
      refine (callsIn_wide.2 (HOF.out k r aa ac ba bc wb HRR.out HHK.out HBK.out (((HWW.out.trans HR2.out).trans HRW.out).trans (Rnd.weak HRB.out)))).mono ?_
      rintro e W4 ⟨gf, lb, rfl, hr4, heg, hH⟩
      have HEG := hide heg
      have HH := hide hH
      have HR4 : Hid (Rnd (fun _ => False) wr W4) := HRB.out.trans hr4
      have HS4 : Hid (wr.heap.size ≤ W4.heap.size) := HR4.out.size
      clear hr4 heg hH ob HWB HRB
      have HDB : Hid (∀ D ∈ Ds, W2.heap.size ≤ D ∧ D < W4.heap.size) := fun D hD => ⟨(HDS.out D hD).1, by have := (Array.getElem?_eq_some_iff.1 (HDS.out D hD).2).1; have := HS4.out; omega⟩
      have HR24 : Hid (Rnd M W2 W4) := HRW.out.trans (Rnd.weak HR4.out)
      gi_wp2
      refine range_hands rfl (by omega) (gf := gf) (lb := lb) rfl trivial HEG.out (HH.out (n - 1)) (Rnd.refl _ _) (fun k hm => by have := (HMM.out k hm).2.2.2; have := HS4.out; have := hsr; have := HS2.out; have := HSW.out; omega) Mx (fun k hm => by have := HMX.out k hm; have := HS4.out; have := hsr; have := HS2.out; have := HSW.out; omega) (fun _ => rfl)
        (fun pre W' => J (upto L k ++ pre) W' ∧ Rnd M W2 W' ∧ ∀ D ∈ Ds, W'.heap[D]? = some (.deferred (some [])))
        (fun c pre W' => c = .ret ∧ Jx (upto L k ++ pre) W' ∧ ∀ D ∈ Ds, W'.heap[D]? = some (.deferred (some [])))
        (fun s A C h hb => ⟨HJ.out _ _ _ h.1 (hb.mono (by have := HS4.out; have := hsr; have := HS2.out; have := HSW.out; omega)), low_rnd (β := Unit) (by have := HS4.out; have := hsr; have := HS2.out; have := HSW.out; omega) () A C h.2.1 hb, fun D hD => (hb.block D (HDB.out D hD).2).trans (h.2.2 D hD)⟩)
        (fun c s A C h hb => ⟨h.1, HJX.out _ _ _ h.2.1 (hb.mono (by have := HS4.out; have := hsr; have := HS2.out; have := HSW.out; omega)), fun D hD => (hb.block D (HDB.out D hD).2).trans (h.2.2 D hD)⟩)
        ⟨by rw [List.append_nil]; exact HJ.out _ _ _ HJK.out ((HR4.out.below (by omega) (fun _ h => h.elim)).mono (by have := HS4.out; have := hsr; have := HS2.out; have := HSW.out; omega)), HR24.out, fun D hD => (HR4.out.block D (Array.getElem?_eq_some_iff.1 (HDS.out D hD).2).1 (fun h => h)).trans (HDS.out D hD).2⟩
        (fun x a' W' => ∃ Bx, W'.cell? ⟨Bx, 0, none⟩ = some (.string (str x.name)) ∧ W'.cell? ⟨Bx, 1, none⟩ = some (.slice x.ua x.n x.uc) ∧ W'.cell? ⟨Bx, 2, none⟩ = some (.int .i64 (x.place : Nat)) ∧ a' = { tmps := #[.func (.yield l) #[] #[], .pointer (some ⟨Br, 0, none⟩), .pointer (some ⟨Bo, 0, none⟩), .pointer (some ⟨W.heap.size, 0, none⟩), undef, .pointer (some ⟨wr.heap.size, 0, none⟩), .pointer (some ⟨Bx, 0, none⟩), .slice (some ⟨g, 0, none⟩) rs.length vc, .int .i64 (rs.length : Nat), .int .i64 (k : Nat), .bool true, .pointer (some ⟨g, k * 4, none⟩), .agg #[.string (str r.head.name), .slice aa r.head.args.length ac, .int .i64 (r.head.place : Nat), .slice ba r.body.length bc], .func (.func f) #[] lbo, .agg #[.string (str r.head.name), .slice aa r.head.args.length ac, .int .i64 (r.head.place : Nat), .slice ba r.body.length bc], .func (.func gf) #[] lb, x.atomV, u17, u18, u19, u20, u21], defers := [] })
        ?hAx ?assign ?body ?done ?stop
      case hAx =>
        rintro x a' W' l' r o hl' ⟨Bx, h0, h1, h2, rfl⟩
        exact ⟨Bx, cell_put_loop hl' h0, cell_put_loop hl' h1, cell_put_loop hl' h2, rfl⟩
      case assign =>
        rintro l' pre ⟨xk, xn, xl, xa, xc, xp, xts⟩ W' K hsz hi hK
        have HK := hide hK
        clear hK hi
        dsimp only [BX.atomV]
        gi_wp2
        refine HK.out _ _ ((Rnd.refl _ _).alloc _) ⟨W'.heap.size, ?_, ?_, ?_, rfl⟩ <;> (rw [World.cell?_alloc_at _ _ _ _ rfl]; rfl)
      case body =>
        rintro l' pre x a' W' hsz ⟨hj, hr, hm⟩ ⟨Bx, h0, h1, h2, rfl⟩ hlen
        have hy' := hr.cell y2 (fun hm => by have := (HMM.out _ hm).2.2.2; have := HSW.out; omega)
        obtain ⟨fn', tmps', assign', body', hyy, hRR⟩ := HY.out (upto L k ++ pre) x W' hj (HR2.out.trans hr) (by
          rw [List.append_assoc]
          exact ((List.prefix_append_right_inj (upto L k)).2 hlen).trans (HUS.out ▸ HUP.out))
        have HR5 := hide hRR
        have HRX := hide hr
        have HMK := hide hm
        clear hRR hr hm hj
        dsimp only [BX.atomV] at hyy
        gi_wp2
        refine ⟨fun h => (by cases h), ?_⟩
        refine RoundIn.mono (RoundIn.wideDepth HR5.out) ?_
        rintro e W5 (⟨rfl, hJ5, hr5⟩ | ⟨rfl, hJx5, hr5⟩)
        · have HJ5 := hide hJ5
          have HR6 := hide hr5
          clear hJ5 hr5
          gi_wp2
          refine ⟨HR6.out, by rw [← List.append_assoc]; exact HJ5.out, HRX.out.trans HR6.out, fun D hD => ?_⟩
          have hb := HDB.out D hD
          exact (HR6.out.block D (Array.getElem?_eq_some_iff.1 (HMK.out D hD)).1 (fun hm => by have := (HMM.out D hm).2.2.2; have := HS4.out; have := hsr; have := HS2.out; have := HSW.out; omega)).trans (HMK.out D hD)
        · have HJ5 := hide hJx5
          have HR6 := hide hr5
          clear hJx5 hr5
          gi_wp2
          refine ⟨HR6.out, rfl, by rw [← List.append_assoc]; exact HJ5.out, fun D hD => ?_⟩
          have hb := HDB.out D hD
          exact (HR6.out.block D (Array.getElem?_eq_some_iff.1 (HMK.out D hD)).1 (fun hm => by have := HMX.out D hm; have := HS4.out; have := hsr; have := HS2.out; have := HSW.out; omega)).trans (HMK.out D hD)
      case done =>
        rintro D xs W' hD rfl ⟨hj, hr, hm⟩ hd
        have HJD : Hid (J (upto L (k + 1)) W') := by rw [HUS.out]; exact hj
        have HRD := hide hr
        have HND2 : Hid ((D :: Ds).Nodup) := List.nodup_cons.2 ⟨fun hin => by have := (HDB.out D hin).2; omega, HND.out⟩
        have HDD : Hid (∀ E ∈ D :: Ds, W2.heap.size ≤ E ∧ W'.heap[E]? = some (.deferred (some []))) := fun E hE => by
          rcases List.mem_cons.1 hE with rfl | hE
          · exact ⟨by have := HS4.out; have := hsr; have := HS2.out; have := HSW.out; omega, hd⟩
          · exact ⟨(HDB.out E hE).1, hm E hE⟩
        clear hj hr hm hd
        gi_wp2
        refine ⟨⟨k + 1, D :: Ds, _, _, _, _, _, _, _, _, _, _, _, _, _, _, by omega, HJD, HRD, HND2, HDD, rfl⟩, ?_⟩
        simp [intOf]; omega
      case stop =>
        rintro D c pre W' hD hpre ⟨rfl, hj, hm⟩ hd
        have HJD := hide hj
        have HND2 : Hid ((D :: Ds).Nodup) := List.nodup_cons.2 ⟨fun hin => by have := (HDB.out D hin).2; omega, HND.out⟩
        have HDD : Hid (∀ E ∈ D :: Ds, W.heap.size ≤ E ∧ W'.heap[E]? = some (.deferred (some []))) := fun E hE => by
          rcases List.mem_cons.1 hE with rfl | hE
          · exact ⟨by have := HS4.out; have := hsr; have := HS2.out; have := HSW.out; omega, hd⟩
          · exact ⟨by have := (HDB.out E hE).1; have := HS4.out; have := hsr; have := HS2.out; have := HSW.out; omega, hm E hE⟩
        clear hj hm hd
        gi_wp2
        refine leaves_marks (D :: Ds) W' HND2.out HDD.out (fun W6 hb6 => ?_)
        exact ⟨_, results_none rfl _ _ _, ⟨_, rfl⟩, .inr ⟨_, ((List.prefix_append_right_inj (upto L k)).2 hpre).trans (HUS.out ▸ HUP.out), HJX.out _ _ _ HJD.out hb6⟩⟩
    · have HE : Hid (J (upto L rs.length) wr) := by
        have e : k = rs.length := by omega
        rw [← e]; exact HJK.out
      gi_wp2
      refine leaves_marks (B := W.heap.size) Ds wr HND.out (fun D hD => ⟨by have := (HDS.out D hD).1; have := HS2.out; omega, (HDS.out D hD).2⟩) (fun W6 hb6 => ?_)
      exact ⟨_, results_none rfl _ _ _, ⟨_, rfl⟩, .inl ⟨_, rfl, HJ.out _ _ _ HE.out hb6, low_rnd (β := Unit) (Nat.le_refl _) () _ _ (HR2.out.trans HRW.out) hb6⟩⟩
end Go.Proofs.YtgllfcoafgphbaaGreatDoor

/-
  All atoms of rules, as walk.Each hands them out.
-/
namespace Go.Proofs.YtgllfcoafgphbaaGreatDoor
open Go.ChangeShapes Go.WideShapes Go.ChangeAt Go.RowKit Go.Hands
set_option linter.unusedVariables false
/-- the atoms of a rule, with where their terms lie -/
def ruleX (r : PRule) (a : Value) (vs : List Value) : List BX := headX r.head.name (sliceA a) r.head.args.length (sliceC a) r.head.place r.head.args :: bodyX r.body vs
def LA (rs : List PRule) (hs : List Value) (V : Nat → List Value) (i : Nat) : List BX := match rs[i]?, hs[i]? with
  | some r, some a => ruleX r a (V i)
  | _, _ => []
theorem own_lt {w : World} {base : Nat} {e : TypeId} {size : Nat} {v : Value} {n : Nat} {xs : List Value} (h : w.ownsRow base e size v n xs) {g : Nat} (hg : v.ownBlock = some g) : g < w.heap.size := by
  rcases h.2 with ⟨rfl, h0⟩ | ⟨g', cap, cur, rfl, _, hb, _⟩
  · cases hg
  · cases hg; exact (Array.getElem?_eq_some_iff.1 hb).1
/-- what the walks ask of rules -/
def Tame (rs : List PRule) : Prop := rs.length ≤ 1000000 ∧ ∀ r ∈ rs, r.body.length ≤ 1000000 ∧ ∀ p ∈ r.body, p.kind ≤ 1000
theorem allA_hands (n base Br Bo : Nat) (v : Value) (rs : List PRule) (hs bs : List Value) (V : Nat → List Value) (M : Nat → Prop) (w0 w : World) (hw0 : Rnd M w0 w)
    (hbr : w.cell? ⟨Br, 0, none⟩ = some v) (hbo : w.cell? ⟨Bo, 0, none⟩ = some (.func (.func 47) #[] #[])) (hrules : RulesAt 76 164 112 base w0 v rs hs bs)
    (hV : ∀ (i : Nat) (r : PRule) (u : Value), rs[i]? = some r → bs[i]? = some u → PartsAt 76 164 base w0 u r.body (V i))
    (hM : ∀ k, M k → w0.heap.size ≤ k ∧ k ≠ Br ∧ k ≠ Bo ∧ k < w.heap.size) (ht : Tame rs) (hn1 : 9 ≤ n) :
    Hands Fence.wide n Tryz.prog 78 #[.pointer (some ⟨Br, 0, none⟩), .pointer (some ⟨Bo, 0, none⟩)] (fun x : BX => #[x.atomV]) M (fun ys => ys = upto (LA rs hs V) rs.length) (fun pre => pre <+: upto (LA rs hs V) rs.length) w := by
  refine each_hands n base Br Bo w0.heap.size 47 #[] v rs hs bs M w0 w (LA rs hs V) hw0 hbr hbo hrules (fun g hg => own_lt hrules.own hg) hM ht.1 hn1 (enters_of Tryz.func47 (by kernel_rfl) rfl) ?_
  intro i r aa ac ba bc W hr ha hb hW
  have hL : LA rs hs V i = headX r.head.name aa r.head.args.length ac r.head.place r.head.args :: bodyX r.body (V i) := by
    unfold LA; rw [hr, ha]; rfl
  have hmem : r ∈ rs := List.mem_of_getElem? hr
  have hp := hV i r _ hr hb
  refine (atoms_any (str r.head.name) aa r.head.args.length ac (r.head.place : Nat) ba r.body.length bc W).mono ?_
  rintro e W' ⟨rfl, rfl⟩
  refine ⟨_, _, rfl, (Rnd.refl _ _).alloc _, enters_of Tryz.func79 (by kernel_rfl) rfl, fun m => ?_⟩
  rw [hL]
  have hsz := hW.size
  refine Hands.any (atoms_hands 9 base W.heap.size w0.heap.size r.head.name aa r.head.args.length ac r.head.place r.head.args _ r.body (V i) M w0 _ (hw0.trans (hW.alloc _)) ⟨?_, ?_, ?_, ?_⟩ hp (fun g hg => own_lt hp.own hg) (fun k hm => ⟨(hM k hm).1, by have := (hM k hm).2.2.2; omega, by have := (hM k hm).2.2.2; simp; omega⟩) (ht.2 r hmem).1 (ht.2 r hmem).2 (by omega)) m
  all_goals (rw [World.cell?_alloc_at _ _ _ _ rfl]; rfl)
/-- what is told of an atom: its name, how many terms it has, its place -/
def BX.key (x : BX) : List UInt8 × Nat × Nat := (x.name, x.n, x.place)
def keyA (a : PAtom) : List UInt8 × Nat × Nat := (a.name, a.args.length, a.place)
theorem bodyX_keys : ∀ (ps : List PPart) (vs : List Value), vs.length = ps.length → (bodyX ps vs).map BX.key = ((ps.filter fun p => p.kind == 0 || p.kind == 1).map fun p => keyA p.atom)
  | [], vs, _ => by simp [bodyX]
  | p :: ps, [], h => by simp at h
  | p :: ps, v :: vs, h => by
    have ih := bodyX_keys ps vs (by simpa using h)
    unfold bodyX at ih ⊢
    rw [List.zip_cons_cons, List.filter_cons, List.filter_cons]
    by_cases hk : (p.kind == 0 || p.kind == 1) = true
    · rw [if_pos (by exact hk), if_pos hk, List.map_cons, List.map_cons, List.map_cons, ih]; rfl
    · rw [if_neg (by exact hk), if_neg hk, ih]
end Go.Proofs.YtgllfcoafgphbaaGreatDoor

/-
  The program's check.misfits, walked.
-/
namespace Go.Proofs.YtgllfcoafgphbaaGreatDoor
open Go.ChangeShapes Go.WideShapes Go.ChangeAt Go.RowKit Go.Hands Go.WideMaps Go.Maps
set_option linter.unusedVariables false
attribute [local go_sem] Oper.semAt_some
theorem keyedS : Keyed Tryz.prog 9 := string_keyed Tryz.underlying9
theorem zeroI (w : World) : (zeroValue 3).run Tryz.prog w = .ok (.int .i64 0) w := by kernel_rfl
theorem mapAt {P : Program} {k : TypeId} {R : Value → Option (DataW Unit × List MemPlace)} {b n : Nat} {D : DataW Unit} {w W : World} (h : w.ownsMap P k R b n D) (hk : W.heap[b]? = w.heap[b]?) : W.ownsMap P k R b n D := by
  obtain ⟨es, clock, hb, r⟩ := h
  exact ⟨es, clock, hk.trans hb, r⟩
theorem mapLt {P : Program} {k : TypeId} {R : Value → Option (DataW Unit × List MemPlace)} {b n : Nat} {D : DataW Unit} {w : World} (h : w.ownsMap P k R b n D) : b < w.heap.size := by
  obtain ⟨es, clock, hb, r⟩ := h
  rcases Nat.lt_or_ge b w.heap.size with h' | h'
  · exact h'
  · rw [Array.getElem?_eq_none h'] at hb; cases hb
/-- the number of terms of the first atom of a name -/
def countX (seen : List BX) (n : List UInt8) : Option Nat := (seen.find? (fun b => b.name == n)).map (·.n)
theorem countX_snoc (seen : List BX) (x : BX) (n : List UInt8) : countX (seen ++ [x]) n = (countX seen n).or (if x.name == n then some x.n else none) := by
  unfold countX
  rw [List.find?_append]
  cases seen.find? (fun b => b.name == n) with
  | none =>
    by_cases h : x.name == n
    · simp [h]
    · simp [h]
  | some y => simp
/-- one atom more: the first ones of their names, and the misfits -/
def misStep (s : List BX × List BX) (x : BX) : List BX × List BX := match countX s.1 x.name with
  | none => (s.1 ++ [x], s.2)
  | some c => if c = x.n then s else (s.1, s.2 ++ [x])
def misX (l : List BX) : List BX × List BX := l.foldl misStep ([], [])
theorem misX_snoc (l : List BX) (x : BX) : misX (l ++ [x]) = misStep (misX l) x := by simp [misX, List.foldl_append]
theorem misX_mono (l m : List BX) : (misX l).2 <+: (misX (l ++ m)).2 := by
  induction m generalizing l with
  | nil => rw [List.append_nil]; exact List.prefix_refl _
  | cons x m ih =>
    refine List.IsPrefix.trans ?_ (by simpa using ih (l ++ [x]))
    rw [misX_snoc]; unfold misStep
    cases countX (misX l).1 x.name with
    | none => exact List.prefix_refl _
    | some c =>
      by_cases h : c = x.n
      · simp only [if_pos h]; exact List.prefix_refl _
      · simp only [if_neg h]; exact List.prefix_append _ _
/-- the map of the counts, as it reads -/
structure CntD (D : DataW Unit) (seen : List BX) : Prop where
  isMap : IsMap D
  has : ∀ n, Maps.has D (.string n) = (countX seen n).isSome
  at' : ∀ n c, countX seen n = some c → D.atKey (.string n) (.lit (.int .i64 0)) = .lit (.int .i64 (c : Nat))
theorem CntD.nil : CntD (.map []) [] := ⟨isMap_empty, fun n => rfl, fun n c h => by simp [countX] at h⟩
theorem CntD.put {D : DataW Unit} {seen : List BX} (h : CntD D seen) (x : BX) (hx : countX seen x.name = none) : CntD (D.put (.string x.name) (.lit (.int .i64 (x.n : Nat)))) (seen ++ [x]) := by
  refine ⟨h.isMap.put _ _, fun n => ?_, fun n c hc => ?_⟩
  · rw [countX_snoc]
    by_cases e : x.name = n
    · subst e
      rw [has_put_same h.isMap (by simp [WideAt.IsKeyLit]), hx]; simp
    · rw [has_put_other (by intro e2; injection e2 with e3; exact e e3.symm), h.has]; simp [e]
  · rw [countX_snoc] at hc
    by_cases e : x.name = n
    · subst e
      rw [hx] at hc
      simp at hc
      subst hc
      exact atKey_put_same h.isMap (by simp [WideAt.IsKeyLit]) _ _
    · rw [atKey_put_other (by intro e2; injection e2 with e3; exact e e3.symm)]
      refine h.at' n c ?_
      simpa [e] using hc
set_option maxRecDepth 100000 in
set_option maxHeartbeats 1000000 in
theorem misfits_any (a : Option Addr) (n c : Nat) (w : World) :
    Calls Tryz.prog 30 #[.slice a n c] w fun e w' => e = .returned (.func (.func 58) #[] #[.pointer (some ⟨w.heap.size, 0, none⟩)]) ∧ w' = w.alloc (.cells #[.slice a n c] 52) := by
  go_enter Tryz.func30, Tryz.ntmps30
  go_wp2
  go_ret
  exact ⟨rfl, rfl⟩
set_option maxRecDepth 100000 in
set_option maxHeartbeats 4000000 in
theorem misfits_hands (n base Br : Nat) (v : Value) (rs : List PRule) (hs bs : List Value) (V : Nat → List Value) (w0 w : World) (hw0 : Rnd (fun _ => False) w0 w)
    (hbr : w.cell? ⟨Br, 0, none⟩ = some v) (hrules : RulesAt 76 164 112 base w0 v rs hs bs)
    (hV : ∀ (i : Nat) (r : PRule) (u : Value), rs[i]? = some r → bs[i]? = some u → PartsAt 76 164 base w0 u r.body (V i))
    (ht : Tame rs) (hb : ∀ x ∈ upto (LA rs hs V) rs.length, x.name.length ≤ 1000000 ∧ x.n ≤ 1000000) (hN : (upto (LA rs hs V) rs.length).length ≤ 1000000000) (hn1 : 19 ≤ n) :
    Hands Fence.wide n Tryz.prog 58 #[.pointer (some ⟨Br, 0, none⟩)] (fun x : BX => #[x.atomV]) (fun _ => False) (fun ys => ys = (misX (upto (LA rs hs V) rs.length)).2) (fun pre => pre <+: (misX (upto (LA rs hs V) rs.length)).2) w := by
  have hmm := @run_makeMap Tryz.prog
  intro l Mx J Jx W hW hMx hJ hJx hY h0
  have HMX := hide hMx
  have HJ : Hid (Low W.heap.size J) := hJ
  have HJX : Hid (Low W.heap.size Jx) := hJx
  have HY := hide hY
  have HWW := hide hW
  have H0 := hide h0
  have q0 := hW.cell hbr (fun hm => hm)
  have hvv := own_slice hrules.own
  obtain ⟨va, HVA⟩ : ∃ a, Hid (a = sliceA v) := ⟨_, rfl⟩
  obtain ⟨vc, HVC⟩ : ∃ c, Hid (c = sliceC v) := ⟨_, rfl⟩
  rw [← HVA.out, ← HVC.out] at hvv
  have HRL := hide hrules
  have HVV := hide hV
  have HT := hide ht
  have HBB := hide hb
  have HW0 := hide hw0
  have hBr : Br < W.heap.size := World.block_lt_of_cell? W ⟨Br, 0, none⟩ q0
  clear hW hMx hJ hJx hY h0 hrules hbr hw0 hV ht hb
  rw [hvv] at q0
  obtain ⟨W2, HW2⟩ : ∃ W2, Hid (W2 = ((W.alloc (.cells #[.func (.yield l) #[] #[]] 117)).alloc (.map #[] 0)).alloc (.cells #[.map (some (W.heap.size + 1))] 56)) := ⟨_, rfl⟩
  have HB2 : Hid (Below W.heap.size W W2) := by rw [HW2.out]; exact (((Below.refl _ _).alloc (Nat.le_refl _) _).alloc (by simp) _).alloc (by simp; omega) _
  have HR2 : Hid (Rnd (fun _ => False) W W2) := by rw [HW2.out]; exact (((Rnd.refl _ _).alloc _).alloc _).alloc _
  have HS2 : Hid (W2.heap.size = W.heap.size + 3) := by show _ = _; rw [HW2.out]; simp
  have HRa : Rnd (fun _ => False) (W.alloc (.cells #[.func (.yield l) #[] #[]] 117)) W2 := by rw [HW2.out]; exact ((Rnd.refl _ _).alloc _).alloc _
  have y2 : W2.cell? ⟨W.heap.size, 0, none⟩ = some (.func (.yield l) #[] #[]) := HRa.cell (by rw [World.cell?_alloc_at _ _ _ _ rfl]; rfl) (fun h => h)
  have c2 : W2.cell? ⟨W.heap.size + 1 + 1, 0, none⟩ = some (.map (some (W.heap.size + 1))) := by
    rw [HW2.out, World.cell?_alloc_at _ _ _ _ (by simp)]; rfl
  have HM2 : Hid (W2.ownsMap Tryz.prog 9 (plainElem Tryz.prog 3) (W.heap.size + 1) 0 (.map [] : DataW Unit)) := by
    have h1 := World.ownsMap_made (H := Unit) (W.alloc (.cells #[.func (.yield l) #[] #[]] 117)) Tryz.prog 9 (plainElem Tryz.prog 3)
    rw [World.size_alloc] at h1
    refine mapAt h1 ?_
    rw [HW2.out]
    exact Below.heap_alloc _ _ _ (by simp)
  have r2 := HR2.out.cell q0 (fun h => h)
  have hW2 := HW2.out.symm
  have HJ2 : Hid (J [] W2) := HJ.out _ _ _ H0.out HB2.out
  clear HRa q0
  refine callsIn_of_wp_marks Tryz.func58 rfl trivial ?_ rfl
  simp only [Tryz.ntmps58, List.size_toArray, List.length_cons, List.length_nil, Nat.reduceAdd, Nat.reduceSub, Array.replicate_succ, Array.replicate_zero, List.push_toArray, List.append_toArray, List.nil_append, List.cons_append]
  gi_wp2_with fail
  clear hW2
  refine ⟨trivial, fun h => (by cases h), ?_⟩
  refine (callsIn_wide.2 (each_any _ va rs.length vc 47 #[] W2 rfl)).mono ?_
  rintro e W4 ⟨rfl, hW4⟩
  have HW4 := hide hW4
  have HR24 : Hid (Rnd (fun _ => False) W2 W4) := by rw [HW4.out]; exact ((Rnd.refl _ _).alloc _).alloc _
  have HS4 : Hid (W4.heap.size = W2.heap.size + 2) := by show _ = _; rw [HW4.out]; simp
  have b4 : W4.cell? ⟨W2.heap.size, 0, none⟩ = some v := by
    rw [HW4.out, hvv]
    have h1 : Rnd (fun _ => False) (W2.alloc (.cells #[.slice va rs.length vc] 52)) ((W2.alloc (.cells #[.slice va rs.length vc] 52)).alloc (.cells #[.func (.func 47) #[] #[]] 99)) := (Rnd.refl _ _).alloc _
    exact h1.cell (by rw [World.cell?_alloc_at _ _ _ _ rfl]; rfl) (fun h => h)
  have o4 : W4.cell? ⟨W2.heap.size + 1, 0, none⟩ = some (.func (.func 47) #[] #[]) := by
    rw [HW4.out, World.cell?_alloc_at _ _ _ _ (by simp)]; rfl
  have HM4 : Hid (W4.ownsMap Tryz.prog 9 (plainElem Tryz.prog 3) (W.heap.size + 1) 0 (.map [] : DataW Unit)) := mapAt HM2.out (HR24.out.block _ (by have := HS2.out; omega) (fun h => h))
  have y4 := HR24.out.cell y2 (fun h => h)
  have c4 := HR24.out.cell c2 (fun h => h)
  clear hW4 HW4 y2 c2 r2 HM2
  have HSW : Hid (w.heap.size ≤ W.heap.size) := HWW.out.size
  have HS0 : Hid (w0.heap.size ≤ w.heap.size) := HW0.out.size
  have HR4 : Hid (Rnd (fun _ => False) W W4) := HR2.out.trans HR24.out
  gi_wp2
  refine range_hands rfl (by omega) (gf := 78) (lb := #[.pointer (some ⟨W2.heap.size, 0, none⟩), .pointer (some ⟨W2.heap.size + 1, 0, none⟩)]) rfl trivial (enters_of Tryz.func78 (by kernel_rfl) rfl)
    (allA_hands (n - 1) base W2.heap.size (W2.heap.size + 1) v rs hs bs V (fun k => k = W.heap.size + 1) w0 W4 (Rnd.weak ((HW0.out.trans HWW.out).trans HR4.out)) b4 o4 HRL.out HVV.out (fun k hm => by have := HS4.out; have := HS2.out; have := HSW.out; have := HS0.out; subst hm; omega) HT.out (by omega))
    (Rnd.refl _ _) (fun k hm => by have := HS4.out; have := HS2.out; have := HSW.out; have := HS0.out; have hm2 : k = W.heap.size + 1 := hm; omega) Mx (fun k hm => by have := HMX.out k hm; have := HS4.out; have := HS2.out; have := HSW.out; have := HS0.out; omega) (fun _ => rfl)
    (fun pre W' => J (misX pre).2 W' ∧ Rnd (fun _ => False) W W' ∧ W'.cell? ⟨W.heap.size, 0, none⟩ = some (.func (.yield l) #[] #[]) ∧ W'.cell? ⟨W.heap.size + 1 + 1, 0, none⟩ = some (.map (some (W.heap.size + 1))) ∧ ∃ (nn : Nat) (D : DataW Unit), W'.ownsMap Tryz.prog 9 (plainElem Tryz.prog 3) (W.heap.size + 1) nn D ∧ CntD D (misX pre).1 ∧ nn ≤ pre.length)
    (fun c pre W' => c = .ret ∧ Jx (misX pre).2 W')
    (fun s A C h hb => ⟨HJ.out _ _ _ h.1 (hb.mono (by have := HS4.out; have := HS2.out; have := HSW.out; have := HS0.out; omega)), low_rnd (β := Unit) (by have := HS4.out; have := HS2.out; have := HSW.out; have := HS0.out; omega) () A C h.2.1 hb, (hb.cell (p := ⟨W.heap.size, 0, none⟩) (by have := HS4.out; have := HS2.out; have := HSW.out; have := HS0.out; show W.heap.size < _; omega)).trans h.2.2.1, (hb.cell (p := ⟨W.heap.size + 1 + 1, 0, none⟩) (by have := HS4.out; have := HS2.out; have := HSW.out; have := HS0.out; show W.heap.size + 1 + 1 < _; omega)).trans h.2.2.2.1, by
      obtain ⟨nn, D, h1, h2, h3⟩ := h.2.2.2.2
      exact ⟨nn, D, mapAt h1 (hb.block _ (by have := HS4.out; have := HS2.out; have := HSW.out; have := HS0.out; omega)), h2, h3⟩⟩)
    (fun c s A C h hb => ⟨h.1, HJX.out _ _ _ h.2 (hb.mono (by have := HS4.out; have := HS2.out; have := HSW.out; have := HS0.out; omega))⟩)
    ⟨HJ.out _ _ _ HJ2.out ((HR24.out.below (n := W2.heap.size) (Nat.le_refl _) (fun _ h => h.elim)).mono (by have := HS4.out; have := HS2.out; have := HSW.out; have := HS0.out; omega)), HR4.out, y4, c4, 0, _, HM4.out, CntD.nil, Nat.le_refl _⟩
    (fun x a' W' => ∃ Bx, W'.cell? ⟨Bx, 0, none⟩ = some (.string (str x.name)) ∧ W'.cell? ⟨Bx, 1, none⟩ = some (.slice x.ua x.n x.uc) ∧ W'.cell? ⟨Bx, 2, none⟩ = some (.int .i64 (x.place : Nat)) ∧ a' = { tmps := #[.func (.yield l) #[] #[], .pointer (some ⟨Br, 0, none⟩), .pointer (some ⟨W.heap.size, 0, none⟩), .pointer (some ⟨W.heap.size + 1 + 1, 0, none⟩), .pointer (some ⟨Bx, 0, none⟩), undef, undef, .map (some (W.heap.size + 1)), .slice va rs.length vc, .func (.func 78) #[] #[.pointer (some ⟨W2.heap.size, 0, none⟩), .pointer (some ⟨W2.heap.size + 1, 0, none⟩)], x.atomV, undef, undef, undef, undef, undef, undef, undef, undef, undef, undef, undef, undef, undef, undef, undef, undef, undef, undef, undef, undef, undef, undef, undef, undef, undef, undef], defers := [] })
    ?hAx ?assign ?body ?done ?stop
  case hAx =>
    rintro x a' W' l' r o hl' ⟨Bx, h0, h1, h2, rfl⟩
    exact ⟨Bx, cell_put_loop hl' h0, cell_put_loop hl' h1, cell_put_loop hl' h2, rfl⟩
  case assign =>
    rintro l' pre ⟨xk, xn, xl, xa, xc, xp, xts⟩ W' K hsz hi hK
    have HK := hide hK
    clear hK hi
    dsimp only [BX.atomV]
    gi_wp2
    refine HK.out _ _ ((Rnd.refl _ _).alloc _) ⟨W'.heap.size, ?_, ?_, ?_, rfl⟩ <;> (rw [World.cell?_alloc_at _ _ _ _ rfl]; rfl)
  case body =>
    rintro l' pre x a' W' hsz ⟨hj, hr, hy', hcc, nn, D, hown, hD, hnn⟩ ⟨Bx, h0, h1, h2, rfl⟩ hlen
    have HLEN := hide hlen
    have hmem : x ∈ upto (LA rs hs V) rs.length := hlen.subset (by simp)
    have hpl : pre.length ≤ 1000000000 := by have := hlen.length_le; simp at this; omega
    have HXB := HBB.out x hmem
    have hkey : keyOf Tryz.prog 9 (.string (str x.name)) = some (.string x.name) := by
      have := keyOf_string_mk Tryz.underlying9 (s := str x.name) (by rw [str_size]; unfold maxLen; omega)
      rw [data_str] at this; exact this
    obtain ⟨hxl1, hxl2⟩ := HXB
    have HJ1 := hide hj
    have HRX := hide hr
    have HMS : Hid (misX (pre ++ [x]) = misStep (misX pre) x) := misX_snoc pre x
    have hhas := hD.has x.name
    clear hlen hmem hj hr
    cases hct : countX (misX pre).1 x.name with
    | none =>
      rw [hct] at hhas
      have HST : Hid (misX (pre ++ [x]) = ((misX pre).1 ++ [x], (misX pre).2)) := by show _ = _; rw [HMS.out]; unfold misStep; rw [hct]
      have HDP := hide (hD.put x hct)
      obtain ⟨sx, HSX⟩ : ∃ sx, Hid (sx = str x.name) := ⟨_, rfl⟩
      rw [← HSX.out] at hkey h0
      have hh2 : Maps.has D (.string x.name) = false := hhas
      clear hhas hct hD
      gi_wp2_with (first
        | (gi_at_lookup; refine wpListIn_lookup_own_ok_int _ rfl _ _ 56 rfl 9 3 .i64 keyedS Tryz.underlying56 Tryz.underlying3 (zeroI _) (W.heap.size + 1) nn D rfl hown _ _ rfl hkey ?_; intro c hat hwc; rw [hh2])
        | (gi_at_mapUpdate; refine wpListIn_mapUpdate_own _ rfl _ _ _ 56 rfl 9 3 keyedS Tryz.underlying56 _ (W.heap.size + 1) nn D rfl hown (by unfold maxLen; omega) _ _ _ rfl rfl hkey _ [] (plainElem_int Tryz.underlying3 (WalkArith.wf_i64 (by omega))) ?_; intro w1 hown1 hgrow1))
      have hg1 : Rnd (fun k => k = W.heap.size + 1) W' w1 := Rnd.grown hgrow1 (fun k e => by cases e; rfl)
      have hne : ∀ k, k < W.heap.size → ¬ (k = W.heap.size + 1) := fun k hk e => by omega
      have hbw : Below W.heap.size W' w1 := hg1.below (by have := HRX.out.size; omega) (fun k e => by omega)
      have hI : (misX (pre ++ [x])).2 = (misX pre).2 := by rw [HST.out]
      have hI1 : (misX (pre ++ [x])).1 = (misX pre).1 ++ [x] := by rw [HST.out]
      gi_wp2
      refine ⟨hg1, by rw [hI]; exact HJ.out _ _ _ HJ1.out hbw, low_rnd (β := Unit) (Nat.le_refl _) () _ _ HRX.out hbw, hg1.cell hy' (by omega), hg1.cell hcc (by omega), nn + 1, _, hown1, by rw [hI1]; exact HDP.out, by simp; omega⟩
    | some c0 =>
      rw [hct] at hhas
      have hat0 := hD.at' x.name c0 hct
      have hh2 : Maps.has D (.string x.name) = true := hhas
      obtain ⟨sx, HSX⟩ : ∃ sx, Hid (sx = str x.name) := ⟨_, rfl⟩
      rw [← HSX.out] at hkey h0
      have HSTP : Hid (misX (pre ++ [x]) = if c0 = x.n then misX pre else ((misX pre).1, (misX pre).2 ++ [x])) := by show _ = _; rw [HMS.out]; unfold misStep; rw [hct]
      have HCD := hide hD
      clear hhas hct hD
      by_cases hcn : c0 = x.n
      · have HST : Hid (misX (pre ++ [x]) = misX pre) := by show _ = _; rw [HSTP.out, if_pos hcn]
        have hbne : ((c0 : Int) != (x.n : Int)) = false := by simp [hcn]
        gi_wp2_with (first
          | (gi_at_lookup; refine wpListIn_lookup_own_ok_int _ rfl _ _ 56 rfl 9 3 .i64 keyedS Tryz.underlying56 Tryz.underlying3 (zeroI _) (W.heap.size + 1) nn D rfl hown _ _ rfl hkey ?_; intro c hat hwc; rw [hh2]; have hc0 : c = (c0 : Int) := (by rw [hat0] at hat; injection hat with e1; injection e1 with e2 e3; exact e3.symm); subst hc0)
          | fail)
        refine ⟨fun _ h => (by cases h), ?_⟩
        gi_wp2
        rw [← HST.out] at HJ1 HCD
        exact ⟨Rnd.refl _ _, HJ1.out, HRX.out, hy', hcc, nn, D, hown, HCD.out, by simp; omega⟩
      · have HST : Hid (misX (pre ++ [x]) = ((misX pre).1, (misX pre).2 ++ [x])) := by show _ = _; rw [HSTP.out, if_neg hcn]
        have hbne : ((c0 : Int) != (x.n : Int)) = true := by simp; omega
        have hI : (misX (pre ++ [x])).2 = (misX pre).2 ++ [x] := by rw [HST.out]
        have hI1 : (misX (pre ++ [x])).1 = (misX pre).1 := by rw [HST.out]
        have hpf : (misX pre).2 ++ [x] <+: (misX (upto (LA rs hs V) rs.length)).2 := by
          obtain ⟨t, ht⟩ := HLEN.out
          rw [← hI, ← ht]; exact misX_mono _ t
        obtain ⟨fn', tmps', assign', body', hyy, hRR⟩ := HY.out (misX pre).2 x W' HJ1.out HRX.out hpf
        have HR5 := hide hRR
        have HI := hide hI
        have HI1 := hide hI1
        clear hRR hI hI1 hpf
        dsimp only [BX.atomV] at hyy
        rw [← HSX.out] at hyy
        gi_wp2_with (first
          | (gi_at_lookup; refine wpListIn_lookup_own_ok_int _ rfl _ _ 56 rfl 9 3 .i64 keyedS Tryz.underlying56 Tryz.underlying3 (zeroI _) (W.heap.size + 1) nn D rfl hown _ _ rfl hkey ?_; intro c hat hwc; rw [hh2]; have hc0 : c = (c0 : Int) := (by rw [hat0] at hat; injection hat with e1; injection e1 with e2 e3; exact e3.symm); subst hc0)
          | fail)
        clear hyy h0 h1 h2
        refine ⟨fun h => (by cases h), ?_⟩
        refine RoundIn.mono (RoundIn.wideDepth HR5.out) ?_
        rintro e W5 (⟨rfl, hJ5, hr5⟩ | ⟨rfl, hJx5, hr5⟩)
        · have HJ5 := hide hJ5
          have HR6 := hide hr5
          clear hJ5 hr5
          have HM5 := hide (mapAt hown (HR6.out.block _ (mapLt hown) (fun h => h)))
          have hy5 := HR6.out.cell hy' (fun h => h)
          have hc5 := HR6.out.cell hcc (fun h => h)
          clear hown hy' hcc
          gi_wp2
          refine ⟨Rnd.weak HR6.out, by rw [HI.out]; exact HJ5.out, HRX.out.trans HR6.out, hy5, hc5, nn, D, HM5.out, by rw [HI1.out]; exact HCD.out, by simp; omega⟩
        · have HJ5 := hide hJx5
          have HR6 := hide hr5
          clear hJx5 hr5
          gi_wp2
          exact ⟨HR6.out, rfl, by rw [HI.out]; exact HJ5.out⟩
  case done =>
    rintro D xs W' hD rfl ⟨hj, hr, -⟩ hd
    gi_wp2
    refine ⟨by simp, .inl ⟨_, _, rfl, run_takeDeferred hd, ?_⟩⟩
    have hDW : W.heap.size ≤ D := by have := HS4.out; have := HS2.out; have := HSW.out; have := HS0.out; omega
    exact ⟨_, results_none rfl _ _ _, ⟨_, rfl⟩, .inl ⟨_, rfl, HJ.out _ _ _ hj (below_put hDW), hr.put (.inl hDW)⟩⟩
  case stop =>
    rintro D c pre W' hD hpre ⟨rfl, hj⟩ hd
    gi_wp2
    refine ⟨by simp, .inl ⟨_, _, rfl, run_takeDeferred hd, ?_⟩⟩
    have hDW : W.heap.size ≤ D := by have := HS4.out; have := HS2.out; have := HSW.out; have := HS0.out; omega
    obtain ⟨t, ht⟩ := hpre
    exact ⟨_, results_none rfl _ _ _, ⟨_, rfl⟩, .inr ⟨_, by rw [← ht]; exact misX_mono pre t, HJX.out _ _ _ hj (below_put hDW)⟩⟩
end Go.Proofs.YtgllfcoafgphbaaGreatDoor
