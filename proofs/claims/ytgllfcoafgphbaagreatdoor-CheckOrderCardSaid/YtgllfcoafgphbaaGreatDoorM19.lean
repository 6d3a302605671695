import Derived.Test.YtgllfcoafgphbaaGreatDoorM10
import Derived.Test.YtgllfcoafgphbaaGreatDoorM15
import Derived.Test.YtgllfcoafgphbaaGreatDoorM18
/-
  The program's walk.Each, walked: at terms.
-/
namespace Go.Proofs.YtgllfcoafgphbaaGreatDoor
open Go.ChangeShapes Go.WideShapes Go.ChangeAt Go.RowKit Go.Hands
set_option linter.unusedVariables false
attribute [local go_sem] Oper.semAt_some
/-- a term as it is handed out -/
def aggT (x : PTerm) : Value := .agg #[.bool x.isVar, .string (str x.text), .int .i64 (x.place : Nat)]
set_option maxRecDepth 100000 in
set_option maxHeartbeats 1000000 in
theorem eachT_any (v : Value) (a : Option Addr) (n c f : Nat) (lb : Array Value) (w : World) (hv : v = .slice a n c) :
    Calls Tryz.prog 32 #[v, .func (.func f) #[] lb] w fun e w' => e = .returned (.func (.func 59) #[] #[.pointer (some ⟨w.heap.size, 0, none⟩), .pointer (some ⟨w.heap.size + 1, 0, none⟩)]) ∧ w' = (w.alloc (.cells #[v] 52)).alloc (.cells #[.func (.func f) #[] lb] 82) := by
  subst hv
  go_enter Tryz.func32, Tryz.ntmps32
  go_wp2
  go_ret
  exact ⟨rfl, rfl⟩
set_option maxRecDepth 100000 in
set_option maxHeartbeats 4000000 in
theorem eachT_hands (n base Br Bo n₀ f : Nat) (lbo : Array Value) (v : Value) (rs : List PRule) (hs bs : List Value) (M : Nat → Prop) (w0 w : World) (L : Nat → List PTerm) (hw0 : Rnd M w0 w)
    (hbr : w.cell? ⟨Br, 0, none⟩ = some v) (hbo : w.cell? ⟨Bo, 0, none⟩ = some (.func (.func f) #[] lbo)) (hrules : RulesAt 76 164 112 base w0 v rs hs bs) (hlow : ∀ g, v.ownBlock = some g → g < n₀)
    (hM : ∀ k, M k → n₀ ≤ k ∧ k ≠ Br ∧ k ≠ Bo ∧ k < w.heap.size) (hl : rs.length ≤ 1000000) (hn1 : 9 ≤ n) (hef : ∀ args w, (callFunc f args).run Tryz.prog w = .ok (.enter f args) w)
    (hof : ∀ (i : Nat) (r : PRule) (aa : Option Addr) (ac : Nat) (ba : Option Addr) (bc : Nat) (W : World), rs[i]? = some r → hs[i]? = some (.slice aa r.head.args.length ac) → bs[i]? = some (.slice ba r.body.length bc) → Rnd M w W →
      Calls Tryz.prog f (#[.agg #[.string (str r.head.name), .slice aa r.head.args.length ac, .int .i64 (r.head.place : Nat), .slice ba r.body.length bc]] ++ lbo) W fun e W' => ∃ g lb, e = .returned (.func (.func g) #[] lb) ∧ Rnd (fun _ => False) W W' ∧ (∀ args w, (callFunc g args).run Tryz.prog w = .ok (.enter g args) w) ∧
        ∀ m, Hands Fence.wide m Tryz.prog g lb (fun x : PTerm => #[aggT x]) M (fun ys => ys = L i) (fun pre => pre <+: L i) W') :
    Hands Fence.wide n Tryz.prog 59 #[.pointer (some ⟨Br, 0, none⟩), .pointer (some ⟨Bo, 0, none⟩)] (fun x : PTerm => #[aggT x]) M (fun ys => ys = upto L rs.length) (fun pre => pre <+: upto L rs.length) w := by
  intro l Mx J Jx W hW hMx hJ hJx hY h0
  have HMX := hide hMx
  have HJ : Hid (Low W.heap.size J) := hJ
  have HJX : Hid (Low W.heap.size Jx) := hJx
  have HY := hide hY
  have HMM := hide hM
  have HWW := hide hW
  have HOF := hide hof
  have HLO := hide hlow
  have HEF := hide hef
  have q0 := hW.cell hbr (fun hm => (HMM.out _ hm).2.1 rfl)
  have q1 := hW.cell hbo (fun hm => (HMM.out _ hm).2.2.1 rfl)
  obtain ⟨W2, HW2⟩ : ∃ W2, Hid (W2 = W.alloc (.cells #[.func (.yield l) #[] #[]] 119)) := ⟨_, rfl⟩
  have HB2 : Hid (Below W.heap.size W W2) := by rw [HW2.out]; exact (Below.refl _ _).alloc (Nat.le_refl _) _
  have HR2 : Hid (Rnd M W W2) := by rw [HW2.out]; exact (Rnd.refl _ _).alloc _
  have y2 : W2.cell? ⟨W.heap.size, 0, none⟩ = some (.func (.yield l) #[] #[]) := by rw [HW2.out, World.cell?_alloc_at _ _ _ _ rfl]; rfl
  have HS2 : Hid (W2.heap.size = W.heap.size + 1) := by show _ = _; rw [HW2.out]; simp
  have HSW : Hid (w.heap.size ≤ W.heap.size) := hW.size
  have HJ2 : Hid (J [] W2) := HJ.out _ _ _ h0 HB2.out
  have hW2 : W.alloc (.cells #[.func (.yield l) #[] #[]] 119) = W2 := HW2.out.symm
  have s0 := HR2.out.cell q0 (fun hm => (HMM.out _ hm).2.1 rfl)
  have s1 := HR2.out.cell q1 (fun hm => (HMM.out _ hm).2.2.1 rfl)
  have hvv := own_slice hrules.own
  obtain ⟨va, HVA⟩ : ∃ a, Hid (a = sliceA v) := ⟨_, rfl⟩
  obtain ⟨vc, HVC⟩ : ∃ c, Hid (c = sliceC v) := ⟨_, rfl⟩
  rw [← HVA.out, ← HVC.out] at hvv
  have HRL := hide hrules
  have HW0 := hide hw0
  clear hW hMx hJ hJx hY h0 hM hof hlow hrules hbr hbo q0 q1 hef hw0
  rw [hvv] at s0
  refine callsIn_of_wp_marks Tryz.func59 rfl trivial ?_ rfl
  simp only [Tryz.ntmps59, List.size_toArray, List.length_cons, List.length_nil, Nat.reduceAdd, Nat.reduceSub, Array.replicate_succ, Array.replicate_zero, List.push_toArray, List.append_toArray, List.nil_append, List.cons_append]
  gi_wp2
  have hvl : ∀ k, k < rs.length → ∃ g, va = some ⟨g, 0, none⟩ ∧ g < W2.heap.size ∧ ¬ M g ∧ ∀ (r : PRule) (a b : Value), rs[k]? = some r → hs[k]? = some a → bs[k]? = some b → ∀ (j : Nat) (x : Value), (ruleV r a b)[j]? = some x → W2.cell? ⟨g, k * 4 + j, none⟩ = some x := by
    intro k hk
    rcases own_rules HRL.out with ⟨_, rfl⟩ | ⟨g, cap, hvg, _, hgw, hc, _⟩
    · simp at hk
    · have hg0 : g < n₀ := HLO.out g (by rw [hvg]; rfl)
      have hnm : ¬ M g := fun hm => by have := (HMM.out g hm).1; omega
      refine ⟨g, by rw [HVA.out, hvg]; rfl, ?_, hnm, fun r a b hr ha hb j x hx => HR2.out.cell (HWW.out.cell (HW0.out.cell (hc k r a b hr ha hb j x hx) hnm) hnm) hnm⟩
      have h1 := HW0.out.size
      have h2 := HSW.out
      have h3 := HS2.out
      omega
  have HVL := hide hvl
  clear hvl hvv HVA HVC
  refine wpIn_loop (fun a' w' => ∃ (k : Nat) (Ds : List Nat) (u5 u6 u10 u11 u12 u13 u14 u15 u16 u17 u18 u19 u20 u21 : Value), k ≤ rs.length ∧ Hid (J (upto L k) w') ∧ Hid (Rnd M W2 w') ∧ Hid (Ds.Nodup) ∧ Hid (∀ D ∈ Ds, W2.heap.size ≤ D ∧ w'.heap[D]? = some (.deferred (some []))) ∧ a' = { tmps := #[.func (.yield l) #[] #[], .pointer (some ⟨Br, 0, none⟩), .pointer (some ⟨Bo, 0, none⟩), .pointer (some ⟨W.heap.size, 0, none⟩), undef, u5, u6, .slice va rs.length vc, .int .i64 (rs.length : Nat), .int .i64 ((k : Nat) : Int), u10, u11, u12, u13, u14, u15, u16, u17, u18, u19, u20, u21], defers := Ds.map Go.Hands.mark })
    (fun a' _ => rs.length - (intOf (a'.tmps.getD 9 undef)).toNat) ?start ?round
  case start => exact ⟨0, [], _, _, _, _, _, _, _, _, _, _, _, _, _, _, by omega, HJ2, Rnd.refl _ _, List.nodup_nil, (fun D hD => by simp at hD), rfl⟩
  case round =>
    rintro a' wr ⟨k, Ds, u5, u6, u10, u11, u12, u13, u14, u15, u16, u17, u18, u19, u20, u21, hk, HJK, HRW, HND, HDS, rfl⟩
    by_cases hlt : k < rs.length
    · have hlh : k < hs.length := by have := HRL.out.lh; omega
      have hlb : k < bs.length := by have := HRL.out.lb; omega
      obtain ⟨g, rfl, hgw, hgm, hc⟩ := HVL.out k hlt
      have hrk : rs[k]? = some rs[k] := List.getElem?_eq_getElem hlt
      have hhk : hs[k]? = some hs[k] := List.getElem?_eq_getElem hlh
      have hbk : bs[k]? = some bs[k] := List.getElem?_eq_getElem hlb
      have hus := own_slice (HRL.out.heads k _ _ hrk hhk)
      obtain ⟨pvs, hpv⟩ := HRL.out.bodies k _ _ hrk hbk
      have hvs := own_slice hpv.own
      have hc2 := hc _ _ _ hrk hhk hbk
      rw [hus] at hhk
      rw [hvs] at hbk
      rw [hus, hvs] at hc2
      obtain ⟨r, HRK⟩ : ∃ r, Hid (r = rs[k]) := ⟨rs[k], (rfl : rs[k] = _)⟩
      rw [← HRK.out] at hrk hhk hbk hc2
      obtain ⟨aa, HAA⟩ : ∃ aa, Hid (aa = sliceA hs[k]) := ⟨sliceA hs[k], (rfl : sliceA hs[k] = _)⟩
      obtain ⟨ac, HAC⟩ : ∃ ac, Hid (ac = sliceC hs[k]) := ⟨sliceC hs[k], (rfl : sliceC hs[k] = _)⟩
      obtain ⟨ba, HBA⟩ : ∃ ba, Hid (ba = sliceA bs[k]) := ⟨sliceA bs[k], (rfl : sliceA bs[k] = _)⟩
      obtain ⟨bc, HBC⟩ : ∃ bc, Hid (bc = sliceC bs[k]) := ⟨sliceC bs[k], (rfl : sliceC bs[k] = _)⟩
      rw [← HAA.out, ← HAC.out] at hhk hc2
      rw [← HBA.out, ← HBC.out] at hbk hc2
      have HHK := hide hhk
      have HBK := hide hbk
      have HRR := hide hrk
      have t0 := HRW.out.cell (hc2 0 _ rfl) hgm
      rw [Nat.add_zero] at t0
      have t1 := HRW.out.cell (hc2 1 _ rfl) hgm
      have t2 := HRW.out.cell (hc2 2 _ rfl) hgm
      have t3 := HRW.out.cell (hc2 3 _ rfl) hgm
      have yw := HRW.out.cell y2 (fun hm => by have := (HMM.out _ hm).2.2.2; have := HSW.out; omega)
      have ow := HRW.out.cell s1 (fun hm => (HMM.out _ hm).2.2.1 rfl)
      have HUS : Hid (upto L (k + 1) = upto L k ++ L k) := upto_succ L k
      have HUP : Hid (upto L (k + 1) <+: upto L rs.length) := upto_prefix L hlt
      have hsr : W2.heap.size ≤ wr.heap.size := HRW.out.size
      clear hc hc2 hus hvs hpv hhk hbk hrk
      obtain ⟨wb, HWB⟩ : ∃ wb, Hid (wb = wr.alloc (.cells #[.string (str r.head.name), .slice aa r.head.args.length ac, .int .i64 (r.head.place : Nat), .slice ba r.body.length bc] 112)) := ⟨_, rfl⟩
      have HRB : Hid (Rnd (fun _ => False) wr wb) := by rw [HWB.out]; exact (Rnd.refl _ _).alloc _
      have ob := HRB.out.cell ow (fun h => h)
      have b0 : wb.cell? ⟨wr.heap.size, 0, none⟩ = some (.string (str r.head.name)) := by rw [HWB.out, World.cell?_alloc_at _ _ _ _ rfl]; rfl
      have b1 : wb.cell? ⟨wr.heap.size, 1, none⟩ = some (.slice aa r.head.args.length ac) := by rw [HWB.out, World.cell?_alloc_at _ _ _ _ rfl]; rfl
      have b2 : wb.cell? ⟨wr.heap.size, 2, none⟩ = some (.int .i64 (r.head.place : Nat)) := by rw [HWB.out, World.cell?_alloc_at _ _ _ _ rfl]; rfl
      have b3 : wb.cell? ⟨wr.heap.size, 3, none⟩ = some (.slice ba r.body.length bc) := by rw [HWB.out, World.cell?_alloc_at _ _ _ _ rfl]; rfl
      have hwb := HWB.out.symm
      have hef := HEF.out
      gi_wp2_with fail
      clear b0 b1 b2 b3 t0 t1 t2 t3 hwb hef
      refine ⟨trivial, fun h => (by cases h), ?_⟩
      refine (callsIn_wide.2 (HOF.out k r aa ac ba bc wb HRR.out HHK.out HBK.out (((HWW.out.trans HR2.out).trans HRW.out).trans (Rnd.weak HRB.out)))).mono ?_
      rintro e W4 ⟨gf, lb, rfl, hr4, heg, hH⟩
      have HEG := hide heg
      have HH := hide hH
      have HR4 : Hid (Rnd (fun _ => False) wr W4) := HRB.out.trans hr4
      have HS4 : Hid (wr.heap.size ≤ W4.heap.size) := HR4.out.size
      clear hr4 heg hH ob HWB HRB
      have HDB : Hid (∀ D ∈ Ds, W2.heap.size ≤ D ∧ D < W4.heap.size) := fun D hD => ⟨(HDS.out D hD).1, by have := (Array.getElem?_eq_some_iff.1 (HDS.out D hD).2).1; have := HS4.out; omega⟩
      have HR24 : Hid (Rnd M W2 W4) := HRW.out.trans (Rnd.weak HR4.out)
      gi_wp2
      refine range_hands rfl (by omega) (gf := gf) (lb := lb) rfl trivial HEG.out (HH.out (n - 1)) (Rnd.refl _ _) (fun k hm => by have := (HMM.out k hm).2.2.2; have := HS4.out; have := hsr; have := HS2.out; have := HSW.out; omega) Mx (fun k hm => by have := HMX.out k hm; have := HS4.out; have := hsr; have := HS2.out; have := HSW.out; omega) (fun _ => rfl)
        (fun pre W' => J (upto L k ++ pre) W' ∧ Rnd M W2 W' ∧ ∀ D ∈ Ds, W'.heap[D]? = some (.deferred (some [])))
        (fun c pre W' => c = .ret ∧ Jx (upto L k ++ pre) W' ∧ ∀ D ∈ Ds, W'.heap[D]? = some (.deferred (some [])))
        (fun s A C h hb => ⟨HJ.out _ _ _ h.1 (hb.mono (by have := HS4.out; have := hsr; have := HS2.out; have := HSW.out; omega)), low_rnd (β := Unit) (by have := HS4.out; have := hsr; have := HS2.out; have := HSW.out; omega) () A C h.2.1 hb, fun D hD => (hb.block D (HDB.out D hD).2).trans (h.2.2 D hD)⟩)
        (fun c s A C h hb => ⟨h.1, HJX.out _ _ _ h.2.1 (hb.mono (by have := HS4.out; have := hsr; have := HS2.out; have := HSW.out; omega)), fun D hD => (hb.block D (HDB.out D hD).2).trans (h.2.2 D hD)⟩)
        ⟨by rw [List.append_nil]; exact HJ.out _ _ _ HJK.out ((HR4.out.below (by omega) (fun _ h => h.elim)).mono (by have := HS4.out; have := hsr; have := HS2.out; have := HSW.out; omega)), HR24.out, fun D hD => (HR4.out.block D (Array.getElem?_eq_some_iff.1 (HDS.out D hD).2).1 (fun h => h)).trans (HDS.out D hD).2⟩
        (fun x a' W' => ∃ Bx, W'.cell? ⟨Bx, 0, none⟩ = some (.bool x.isVar) ∧ W'.cell? ⟨Bx, 1, none⟩ = some (.string (str x.text)) ∧ W'.cell? ⟨Bx, 2, none⟩ = some (.int .i64 (x.place : Nat)) ∧ a' = { tmps := #[.func (.yield l) #[] #[], .pointer (some ⟨Br, 0, none⟩), .pointer (some ⟨Bo, 0, none⟩), .pointer (some ⟨W.heap.size, 0, none⟩), undef, .pointer (some ⟨wr.heap.size, 0, none⟩), .pointer (some ⟨Bx, 0, none⟩), .slice (some ⟨g, 0, none⟩) rs.length vc, .int .i64 (rs.length : Nat), .int .i64 (k : Nat), .bool true, .pointer (some ⟨g, k * 4, none⟩), .agg #[.string (str r.head.name), .slice aa r.head.args.length ac, .int .i64 (r.head.place : Nat), .slice ba r.body.length bc], .func (.func f) #[] lbo, .agg #[.string (str r.head.name), .slice aa r.head.args.length ac, .int .i64 (r.head.place : Nat), .slice ba r.body.length bc], .func (.func gf) #[] lb, aggT x, u17, u18, u19, u20, u21], defers := [] })
        ?hAx ?assign ?body ?done ?stop
      case hAx =>
        rintro x a' W' l' r o hl' ⟨Bx, h0, h1, h2, rfl⟩
        exact ⟨Bx, cell_put_loop hl' h0, cell_put_loop hl' h1, cell_put_loop hl' h2, rfl⟩
      case assign =>
        rintro l' pre ⟨xv, xt, xp⟩ W' K hsz hi hK
        have HK := hide hK
        clear hK hi
        dsimp only [aggT]
        gi_wp2
        refine HK.out _ _ ((Rnd.refl _ _).alloc _) ⟨W'.heap.size, ?_, ?_, ?_, rfl⟩ <;> (rw [World.cell?_alloc_at _ _ _ _ rfl]; rfl)
      case body =>
        rintro l' pre x a' W' hsz ⟨hj, hr, hm⟩ ⟨Bx, h0, h1, h2, rfl⟩ hlen
        have hy' := hr.cell y2 (fun hm => by have := (HMM.out _ hm).2.2.2; have := HSW.out; omega)
        obtain ⟨fn', tmps', assign', body', hyy, hRR⟩ := HY.out (upto L k ++ pre) x W' hj (HR2.out.trans hr) (by
          rw [List.append_assoc]
          exact ((List.prefix_append_right_inj (upto L k)).2 hlen).trans (HUS.out ▸ HUP.out))
        have HR5 := hide hRR
        have HRX := hide hr
        have HMK := hide hm
        clear hRR hr hm hj
        dsimp only [aggT] at hyy
        gi_wp2
        refine ⟨fun h => (by cases h), ?_⟩
        refine RoundIn.mono (RoundIn.wideDepth HR5.out) ?_
        rintro e W5 (⟨rfl, hJ5, hr5⟩ | ⟨rfl, hJx5, hr5⟩)
        · have HJ5 := hide hJ5
          have HR6 := hide hr5
          clear hJ5 hr5
          gi_wp2
          refine ⟨HR6.out, by rw [← List.append_assoc]; exact HJ5.out, HRX.out.trans HR6.out, fun D hD => ?_⟩
          have hb := HDB.out D hD
          exact (HR6.out.block D (Array.getElem?_eq_some_iff.1 (HMK.out D hD)).1 (fun hm => by have := (HMM.out D hm).2.2.2; have := HS4.out; have := hsr; have := HS2.out; have := HSW.out; omega)).trans (HMK.out D hD)
        · have HJ5 := hide hJx5
          have HR6 := hide hr5
          clear hJx5 hr5
          gi_wp2
          refine ⟨HR6.out, rfl, by rw [← List.append_assoc]; exact HJ5.out, fun D hD => ?_⟩
          have hb := HDB.out D hD
          exact (HR6.out.block D (Array.getElem?_eq_some_iff.1 (HMK.out D hD)).1 (fun hm => by have := HMX.out D hm; have := HS4.out; have := hsr; have := HS2.out; have := HSW.out; omega)).trans (HMK.out D hD)
      case done =>
        rintro D xs W' hD rfl ⟨hj, hr, hm⟩ hd
        have HJD : Hid (J (upto L (k + 1)) W') := by rw [HUS.out]; exact hj
        have HRD := hide hr
        have HND2 : Hid ((D :: Ds).Nodup) := List.nodup_cons.2 ⟨fun hin => by have := (HDB.out D hin).2; omega, HND.out⟩
        have HDD : Hid (∀ E ∈ D :: Ds, W2.heap.size ≤ E ∧ W'.heap[E]? = some (.deferred (some []))) := fun E hE => by
          rcases List.mem_cons.1 hE with rfl | hE
          · exact ⟨by have := HS4.out; have := hsr; have := HS2.out; have := HSW.out; omega, hd⟩
          · exact ⟨(HDB.out E hE).1, hm E hE⟩
        clear hj hr hm hd
        gi_wp2
        refine ⟨⟨k + 1, D :: Ds, _, _, _, _, _, _, _, _, _, _, _, _, _, _, by omega, HJD, HRD, HND2, HDD, rfl⟩, ?_⟩
        simp [intOf]; omega
      case stop =>
        rintro D c pre W' hD hpre ⟨rfl, hj, hm⟩ hd
        have HJD := hide hj
        have HND2 : Hid ((D :: Ds).Nodup) := List.nodup_cons.2 ⟨fun hin => by have := (HDB.out D hin).2; omega, HND.out⟩
        have HDD : Hid (∀ E ∈ D :: Ds, W.heap.size ≤ E ∧ W'.heap[E]? = some (.deferred (some []))) := fun E hE => by
          rcases List.mem_cons.1 hE with rfl | hE
          · exact ⟨by have := HS4.out; have := hsr; have := HS2.out; have := HSW.out; omega, hd⟩
          · exact ⟨by have := (HDB.out E hE).1; have := HS4.out; have := hsr; have := HS2.out; have := HSW.out; omega, hm E hE⟩
        clear hj hm hd
        gi_wp2
        refine leaves_marks (D :: Ds) W' HND2.out HDD.out (fun W6 hb6 => ?_)
        exact ⟨_, results_none rfl _ _ _, ⟨_, rfl⟩, .inr ⟨_, ((List.prefix_append_right_inj (upto L k)).2 hpre).trans (HUS.out ▸ HUP.out), HJX.out _ _ _ HJD.out hb6⟩⟩
    · have HE : Hid (J (upto L rs.length) wr) := by
        have e : k = rs.length := by omega
        rw [← e]; exact HJK.out
      gi_wp2
      refine leaves_marks (B := W.heap.size) Ds wr HND.out (fun D hD => ⟨by have := (HDS.out D hD).1; have := HS2.out; omega, (HDS.out D hD).2⟩) (fun W6 hb6 => ?_)
      exact ⟨_, results_none rfl _ _ _, ⟨_, rfl⟩, .inl ⟨_, rfl, HJ.out _ _ _ HE.out hb6, low_rnd (β := Unit) (Nat.le_refl _) () _ _ (HR2.out.trans HRW.out) hb6⟩⟩
end Go.Proofs.YtgllfcoafgphbaaGreatDoor

/-
  The program's check.first, walked: at terms.
-/
namespace Go.Proofs.YtgllfcoafgphbaaGreatDoor
open Go.ChangeShapes Go.WideShapes Go.ChangeAt Go.RowKit Go.Hands
set_option linter.unusedVariables false
attribute [local go_sem] Oper.semAt_some
/-- what 'first' answers -/
def firstT (L : List PTerm) : Value := match L with
  | [] => .tuple #[.agg #[.bool false, .string ⟨#[]⟩, .int .i64 0], .bool false]
  | x :: _ => .tuple #[aggT x, .bool true]
set_option maxRecDepth 100000 in
set_option maxHeartbeats 1000000 in
theorem firstT_any (g : Nat) (lb : Array Value) (L : List PTerm) (w : World) (heg : ∀ args w, (callFunc g args).run Tryz.prog w = .ok (.enter g args) w)
    (hH : ∀ m, Hands Fence.wide m Tryz.prog g lb (fun x : PTerm => #[aggT x]) (fun _ => False) (fun ys => ys = L) (fun pre => pre <+: L) w) :
    Calls Tryz.prog 31 #[.func (.func g) #[] lb] w fun e w' => e = .returned (firstT L) ∧ Below w.heap.size w w' := by
  have HH := hide hH
  have HEG := hide heg
  clear hH heg
  refine (callsIn_wide (n := 30)).1 ?_
  refine callsIn_of_wp_marks Tryz.func31 rfl trivial ?_ rfl
  simp only [Tryz.ntmps31, List.size_toArray, List.length_cons, List.length_nil, Nat.reduceAdd, Nat.reduceSub, Array.replicate_succ, Array.replicate_zero, List.push_toArray, List.append_toArray, List.nil_append, List.cons_append]
  obtain ⟨W2, HW2⟩ : ∃ W2, Hid (W2 = (w.alloc (.cells #[.bool false, .string ⟨#[]⟩, .int .i64 0] 76)).alloc (.cells #[.bool false] 4)) := ⟨_, rfl⟩
  have HB2 : Hid (Below w.heap.size w W2) := by rw [HW2.out]; exact ((Below.refl _ _).alloc (Nat.le_refl _) _).alloc (by simp) _
  have HS2 : Hid (W2.heap.size = w.heap.size + 2) := by show _ = _; rw [HW2.out]; simp
  have HR2 : Hid (Rnd (fun _ => False) w W2) := by rw [HW2.out]; exact ((Rnd.refl _ _).alloc _).alloc _
  have HX1 : Hid (W2.heap[w.heap.size]? = some (.cells #[.bool false, .string ⟨#[]⟩, .int .i64 0] 76)) := by
    rw [HW2.out]; exact (Below.heap_alloc _ _ _ (by simp)).trans (World.alloc_heap_new w _)
  have HX2 : Hid (W2.heap[w.heap.size + 1]? = some (.cells #[.bool false] 4)) := by
    rw [HW2.out]
    have := World.alloc_heap_new (w.alloc (.cells #[.bool false, .string ⟨#[]⟩, .int .i64 0] 76)) (.cells #[.bool false] 4)
    rwa [World.size_alloc] at this
  have hW2 := HW2.out.symm
  gi_wp2
  clear hW2
  refine range_hands rfl (by omega) (gf := g) (lb := lb) rfl trivial HEG.out (HH.out 29) HR2.out (fun k hm => hm.elim) (fun k => k = w.heap.size ∨ k = w.heap.size + 1) (fun k hm => by have := HS2.out; have hm2 : k = w.heap.size ∨ k = w.heap.size + 1 := hm; omega) (fun _ => rfl)
    (fun pre W' => pre = [] ∧ Below w.heap.size w W' ∧ W'.heap[w.heap.size]? = some (.cells #[.bool false, .string ⟨#[]⟩, .int .i64 0] 76) ∧ W'.heap[w.heap.size + 1]? = some (.cells #[.bool false] 4))
    (fun c pre W' => c = .ret ∧ ∃ x, pre = [x] ∧ Below w.heap.size w W' ∧ W'.cell? ⟨w.heap.size, 0, none⟩ = some (.bool x.isVar) ∧ W'.cell? ⟨w.heap.size, 1, none⟩ = some (.string (str x.text)) ∧ W'.cell? ⟨w.heap.size, 2, none⟩ = some (.int .i64 (x.place : Nat)) ∧ W'.cell? ⟨w.heap.size + 1, 0, none⟩ = some (.bool true))
    (fun s A C h hb => ⟨h.1, h.2.1.trans (hb.mono (by have := HS2.out; omega)), (hb.block _ (by have := HS2.out; omega)).trans h.2.2.1, (hb.block _ (by have := HS2.out; omega)).trans h.2.2.2⟩)
    (fun c s A C h hb => ⟨h.1, by
      obtain ⟨x, h1, h2, h3, h4, h5, h6⟩ := h.2
      exact ⟨x, h1, h2.trans (hb.mono (by have := HS2.out; omega)), (hb.cell (p := ⟨w.heap.size, 0, none⟩) (by have := HS2.out; show w.heap.size < _; omega)).trans h3, (hb.cell (p := ⟨w.heap.size, 1, none⟩) (by have := HS2.out; show w.heap.size < _; omega)).trans h4, (hb.cell (p := ⟨w.heap.size, 2, none⟩) (by have := HS2.out; show w.heap.size < _; omega)).trans h5, (hb.cell (p := ⟨w.heap.size + 1, 0, none⟩) (by have := HS2.out; show w.heap.size + 1 < _; omega)).trans h6⟩⟩)
    ⟨rfl, HB2.out, HX1.out, HX2.out⟩
    (fun x a' W' => ∃ Bx, W'.cell? ⟨Bx, 0, none⟩ = some (.bool x.isVar) ∧ W'.cell? ⟨Bx, 1, none⟩ = some (.string (str x.text)) ∧ W'.cell? ⟨Bx, 2, none⟩ = some (.int .i64 (x.place : Nat)) ∧ a' = { tmps := #[.func (.func g) #[] lb, undef, .pointer (some ⟨w.heap.size, 0, none⟩), .pointer (some ⟨w.heap.size + 1, 0, none⟩), .pointer (some ⟨Bx, 0, none⟩), undef, .func (.func g) #[] lb, aggT x, undef, undef], defers := [] })
    ?hAx ?assign ?body ?done ?stop
  case hAx =>
    rintro x a' W' l' r o hl' ⟨Bx, h0, h1, h2, rfl⟩
    exact ⟨Bx, cell_put_loop hl' h0, cell_put_loop hl' h1, cell_put_loop hl' h2, rfl⟩
  case assign =>
    rintro l' pre ⟨xv, xt, xp⟩ W' K hsz hi hK
    have HK := hide hK
    clear hK hi
    dsimp only [aggT]
    gi_wp2
    refine HK.out _ _ ((Rnd.refl _ _).alloc _) ⟨W'.heap.size, ?_, ?_, ?_, rfl⟩ <;> (rw [World.cell?_alloc_at _ _ _ _ rfl]; rfl)
  case body =>
    rintro l' pre x a' W' hsz ⟨rfl, hb, hx1, hx2⟩ ⟨Bx, h0, h1, h2, rfl⟩ hlen
    have k0 : W'.cell? ⟨w.heap.size, 0, none⟩ = some (.bool false) := by simp [World.cell?, hx1]
    have k1 : W'.cell? ⟨w.heap.size, 1, none⟩ = some (.string ⟨#[]⟩) := by simp [World.cell?, hx1]
    have k2 : W'.cell? ⟨w.heap.size, 2, none⟩ = some (.int .i64 0) := by simp [World.cell?, hx1]
    have k3 : W'.cell? ⟨w.heap.size + 1, 0, none⟩ = some (.bool false) := by simp [World.cell?, hx2]
    have f0 : W'.frozen? ⟨w.heap.size, 0, none⟩ = false := by simp [World.frozen?, hx1]
    have f1 : W'.frozen? ⟨w.heap.size, 1, none⟩ = false := by simp [World.frozen?, hx1]
    have f2 : W'.frozen? ⟨w.heap.size, 2, none⟩ = false := by simp [World.frozen?, hx1]
    have f3 : W'.frozen? ⟨w.heap.size + 1, 0, none⟩ = false := by simp [World.frozen?, hx2]
    have HX1' := hide hx1
    have HX2' := hide hx2
    have HBB := hide hb
    clear hx1 hx2 hb
    gi_wp2
    obtain ⟨j0, j1, j2, j3⟩ := set4 k0 k1 k2 k3 (.bool x.isVar) (.string (str x.text)) (.int .i64 (x.place : Nat)) (.bool true)
    exact ⟨((((Rnd.refl _ _).setCell (.inr (.inl rfl)) _).setCell (.inr (.inl rfl)) _).setCell (.inr (.inl rfl)) _).setCell (.inr (.inr rfl)) _, rfl, x, rfl, (((HBB.out.setCell (Nat.le_refl _) _).setCell (Nat.le_refl _) _).setCell (Nat.le_refl _) _).setCell (Nat.le_succ _) _, j0, j1, j2, j3⟩
  case done =>
    rintro D xs W' hD rfl ⟨rfl, hb, hx1, hx2⟩ hd
    obtain ⟨Wa, HWA⟩ : ∃ Wa, Hid (Wa = W'.alloc (.cells #[.bool false, .string ⟨#[]⟩, .int .i64 0] 76)) := ⟨_, rfl⟩
    have hda : Wa.heap[D]? = some (.deferred (some [])) := by rw [HWA.out]; exact (Below.heap_alloc _ _ _ (Array.getElem?_eq_some_iff.1 hd).1).trans hd
    have hxa1 : Wa.heap[w.heap.size]? = some (.cells #[.bool false, .string ⟨#[]⟩, .int .i64 0] 76) := by rw [HWA.out]; exact (Below.heap_alloc _ _ _ (Array.getElem?_eq_some_iff.1 hx1).1).trans hx1
    have hxa2 : Wa.heap[w.heap.size + 1]? = some (.cells #[.bool false] 4) := by rw [HWA.out]; exact (Below.heap_alloc _ _ _ (Array.getElem?_eq_some_iff.1 hx2).1).trans hx2
    have n0 : Wa.cell? ⟨W'.heap.size, 0, none⟩ = some (.bool false) := by rw [HWA.out, World.cell?_alloc_at _ _ _ _ rfl]; rfl
    have n1 : Wa.cell? ⟨W'.heap.size, 1, none⟩ = some (.string ⟨#[]⟩) := by rw [HWA.out, World.cell?_alloc_at _ _ _ _ rfl]; rfl
    have n2 : Wa.cell? ⟨W'.heap.size, 2, none⟩ = some (.int .i64 0) := by rw [HWA.out, World.cell?_alloc_at _ _ _ _ rfl]; rfl
    have HBA : Hid (Below w.heap.size w Wa) := by rw [HWA.out]; exact hb.alloc hb.size _
    have k0 : Wa.cell? ⟨w.heap.size, 0, none⟩ = some (.bool false) := by simp [World.cell?, hxa1]
    have k1 : Wa.cell? ⟨w.heap.size, 1, none⟩ = some (.string ⟨#[]⟩) := by simp [World.cell?, hxa1]
    have k2 : Wa.cell? ⟨w.heap.size, 2, none⟩ = some (.int .i64 0) := by simp [World.cell?, hxa1]
    have k3 : Wa.cell? ⟨w.heap.size + 1, 0, none⟩ = some (.bool false) := by simp [World.cell?, hxa2]
    have f0 : Wa.frozen? ⟨w.heap.size, 0, none⟩ = false := by simp [World.frozen?, hxa1]
    have f1 : Wa.frozen? ⟨w.heap.size, 1, none⟩ = false := by simp [World.frozen?, hxa1]
    have f2 : Wa.frozen? ⟨w.heap.size, 2, none⟩ = false := by simp [World.frozen?, hxa1]
    have f3 : Wa.frozen? ⟨w.heap.size + 1, 0, none⟩ = false := by simp [World.frozen?, hxa2]
    have hWA := HWA.out.symm
    have HDA := hide hda
    have HXA1 := hide hxa1
    have HXA2 := hide hxa2
    clear hx1 hx2 hda hb hd hxa1 hxa2
    obtain ⟨j0, j1, j2, j3⟩ := set4 k0 k1 k2 k3 (.bool false) (.string ⟨#[]⟩) (.int .i64 0) (.bool false)
    have HBS : Hid (Below w.heap.size w ((((Wa.setCell ⟨w.heap.size, 0, none⟩ (.bool false)).setCell ⟨w.heap.size, 1, none⟩ (.string ⟨#[]⟩)).setCell ⟨w.heap.size, 2, none⟩ (.int .i64 0)).setCell ⟨w.heap.size + 1, 0, none⟩ (.bool false))) :=
      (((HBA.out.setCell (Nat.le_refl _) _).setCell (Nat.le_refl _) _).setCell (Nat.le_refl _) _).setCell (Nat.le_succ _) _
    have hDD : ((((Wa.setCell ⟨w.heap.size, 0, none⟩ (.bool false)).setCell ⟨w.heap.size, 1, none⟩ (.string ⟨#[]⟩)).setCell ⟨w.heap.size, 2, none⟩ (.int .i64 0)).setCell ⟨w.heap.size + 1, 0, none⟩ (.bool false)).heap[D]? = some (.deferred (some [])) := by
      have hDS := HS2.out
      have r := ((((Rnd.refl (fun k => k = w.heap.size ∨ k = w.heap.size + 1) Wa).setCell (p := ⟨w.heap.size, 0, none⟩) (.inr (.inl rfl)) (.bool false)).setCell (p := ⟨w.heap.size, 1, none⟩) (.inr (.inl rfl)) (.string ⟨#[]⟩)).setCell (p := ⟨w.heap.size, 2, none⟩) (.inr (.inl rfl)) (.int .i64 0)).setCell (p := ⟨w.heap.size + 1, 0, none⟩) (.inr (.inr rfl)) (.bool false)
      exact (r.block D (Array.getElem?_eq_some_iff.1 HDA.out).1 (by omega)).trans HDA.out
    gi_wp2
    generalize ((((Wa.setCell ⟨w.heap.size, 0, none⟩ (.bool false)).setCell ⟨w.heap.size, 1, none⟩ (.string ⟨#[]⟩)).setCell ⟨w.heap.size, 2, none⟩ (.int .i64 0)).setCell ⟨w.heap.size + 1, 0, none⟩ (.bool false)) = U at *
    refine ⟨by simp, .inl ⟨_, _, rfl, run_takeDeferred hDD, ?_⟩⟩
    have hDw : D ≠ w.heap.size ∧ D ≠ w.heap.size + 1 := by have := HS2.out; omega
    have p0 := cell_put_other (o := .deferred none) hDw.1.symm j0
    have p1 := cell_put_other (o := .deferred none) hDw.1.symm j1
    have p2 := cell_put_other (o := .deferred none) hDw.1.symm j2
    have p3 := cell_put_other (o := .deferred none) hDw.2.symm j3
    have HBP : Hid (Below w.heap.size w (U.putObj D (.deferred none))) := HBS.out.trans (below_put (by have := HS2.out; omega))
    generalize U.putObj D (.deferred none) = V at *
    simp [LeavesInM, LeavesIn, results, Tryz.results31, p0, p1, p2, p3, go_sem]
    exact ⟨rfl, HBP.out⟩
  case stop =>
    rintro D c pre W' hD hpre ⟨rfl, x, rfl, hb, k0, k1, k2, k3⟩ hd
    gi_wp2
    refine ⟨by simp, .inl ⟨_, _, rfl, run_takeDeferred hd, ?_⟩⟩
    have hDw : D ≠ w.heap.size ∧ D ≠ w.heap.size + 1 := by have := HS2.out; omega
    have p0 := cell_put_other (o := .deferred none) hDw.1.symm k0
    have p1 := cell_put_other (o := .deferred none) hDw.1.symm k1
    have p2 := cell_put_other (o := .deferred none) hDw.1.symm k2
    have p3 := cell_put_other (o := .deferred none) hDw.2.symm k3
    have HBP : Hid (Below w.heap.size w (W'.putObj D (.deferred none))) := hb.trans (below_put (by have := HS2.out; omega))
    generalize W'.putObj D (.deferred none) = V at *
    simp [LeavesInM, LeavesIn, results, Tryz.results31, p0, p1, p2, p3, go_sem]
    obtain ⟨t, rfl⟩ := hpre
    exact ⟨rfl, HBP.out⟩
end Go.Proofs.YtgllfcoafgphbaaGreatDoor

/-
  The program's walk.Unbound, walked.
-/
namespace Go.Proofs.YtgllfcoafgphbaaGreatDoor
open Go.ChangeShapes Go.WideShapes Go.ChangeAt Go.RowKit Go.Hands Go.WideMaps Go.Maps
set_option linter.unusedVariables false
attribute [local go_sem] Oper.semAt_some
/-- the variables that nothing binds -/
def unbL (hts : List PTerm) (ps : List PPart) : List PTerm := (wantsL hts ps).filter fun t => t.isVar && !boundV ps t.text
set_option maxRecDepth 100000 in
set_option maxHeartbeats 1000000 in
theorem unbound_any (name : ByteArray) (ha : Option Addr) (hn hc : Nat) (place : Int) (ba : Option Addr) (bn bc : Nat) (w : World) :
    Calls Tryz.prog 33 #[.agg #[.string name, .slice ha hn hc, .int .i64 place, .slice ba bn bc]] w fun e w' => e = .returned (.func (.func 60) #[] #[.pointer (some ⟨w.heap.size, 0, none⟩)]) ∧ w' = w.alloc (.cells #[.string name, .slice ha hn hc, .int .i64 place, .slice ba bn bc] 112) := by
  go_enter Tryz.func33, Tryz.ntmps33
  go_wp2
  go_ret
  exact ⟨rfl, rfl⟩
theorem below_none {A B : World} (h : Below A.heap.size A B) : A.grownBy B none := ⟨h.os, h.tape, h.output, h.size, fun k hk _ => h.block k hk⟩
theorem filter_next {α : Type} (f : α → Bool) (l : List α) (k : Nat) (h : k < l.length) : (l.take (k + 1)).filter f = (l.take k).filter f ++ (if f l[k] then [l[k]] else []) := by
  rw [List.take_succ_eq_append_getElem h, List.filter_append]
  congr 1
  by_cases hf : f l[k] <;> simp [hf]
theorem filter_split {α : Type} (f : α → Bool) (l : List α) (k : Nat) : (l.take k).filter f <+: l.filter f := by
  conv => rhs; rw [← List.take_append_drop k l, List.filter_append]
  exact List.prefix_append _ _
set_option maxRecDepth 100000 in
set_option maxHeartbeats 4000000 in
theorem unbound_hands (n base Bn : Nat) (name : List UInt8) (ha : Option Addr) (hc place : Nat) (hts : List PTerm) (bd : Value) (ps : List PPart) (vs : List Value) (w0 w : World) (hw0 : Rnd (fun _ => False) w0 w) (hbox : RuleBox w Bn name ha hts.length hc place bd)
    (hhead : w0.ownsRow base 76 3 (.slice ha hts.length hc) hts.length (termsV hts)) (hparts : PartsAt 76 164 base w0 bd ps vs)
    (hl : ps.length ≤ 1000000) (hhl : hts.length ≤ 1000000) (hkd : ∀ p ∈ ps, p.kind ≤ 1000 ∧ p.atom.args.length ≤ 1000000 ∧ ∀ t ∈ p.atom.args, t.text.length ≤ 1000000) (htx : ∀ t ∈ wantsL hts ps, t.text.length ≤ 1000000) (hwl : (wantsL hts ps).length ≤ 2000000000000) (hn1 : 9 ≤ n) :
    Hands Fence.wide n Tryz.prog 60 #[.pointer (some ⟨Bn, 0, none⟩)] (fun x : PTerm => #[aggT x]) (fun _ => False) (fun ys => ys = unbL hts ps) (fun pre => pre <+: unbL hts ps) w := by
  intro l Mx J Jx W hW hMx hJ hJx hY h0
  have HJ : Hid (Low W.heap.size J) := hJ
  have HJX : Hid (Low W.heap.size Jx) := hJx
  have HY := hide hY
  have H0 := hide h0
  obtain ⟨q0, q1, q2, q3⟩ := hbox.rnd hW (fun hm => hm)
  have hbd := own_slice hparts.own
  obtain ⟨bda, HBA⟩ : ∃ a, Hid (a = sliceA bd) := ⟨_, rfl⟩
  obtain ⟨bdc, HBC⟩ : ∃ c, Hid (c = sliceC bd) := ⟨_, rfl⟩
  rw [← HBA.out, ← HBC.out] at hbd
  have HBD := hide hbd
  have HKD := hide hkd
  have HTX := hide htx
  have HLV := hide hparts.len
  have HPW : Hid (PartsAt 76 164 base W bd ps vs) := hparts.kept (rnd_none (hw0.trans hW)) (fun g h => by cases h)
  have HHW : Hid (W.ownsRow base 76 3 (.slice ha hts.length hc) hts.length (termsV hts)) := own_far hhead (rnd_none (hw0.trans hW)) (by simp)
  have HBXS : Hid (∀ x ∈ bodyX ps vs, x.args.length ≤ 1000000 ∧ ∀ t ∈ x.args, t.text.length ≤ 1000000) := by
    intro x hx
    obtain ⟨i, p, u, hp, _, _, rfl⟩ := bodyX_mem hx
    exact (hkd p (List.mem_of_getElem? hp)).2
  have HBI : Hid (Calls Tryz.prog 61 #[.agg #[.string (str name), .slice ha hts.length hc, .int .i64 (place : Nat), .slice bda ps.length bdc]] W fun e w' => ∃ (b nn : Nat), W.heap.size ≤ b ∧ e = .returned (.map (some b)) ∧ w'.ownsMap Tryz.prog 9 unitElem b nn (setU (bindsX (bodyX ps vs))) ∧ Below W.heap.size W w') := by
    have := binds_any base (str name) ha hts.length hc (place : Nat) bd ps vs W W (Rnd.refl _ _) HPW.out hl (fun p hp => (hkd p hp).1) HBXS.out
    rw [hbd] at this; exact this
  have HWA : Hid (∀ W1, Below W.heap.size W W1 → Calls Tryz.prog 62 #[.agg #[.string (str name), .slice ha hts.length hc, .int .i64 (place : Nat), .slice bda ps.length bdc]] W1 fun e w' => (∃ v', e = .returned v' ∧ w'.ownsRow W1.heap.size 76 3 v' (wantsL hts ps).length (termsV (wantsL hts ps))) ∧ Below W1.heap.size W1 w') := by
    intro W1 hb1
    have := wants_any base (str name) ha hc (place : Nat) hts bd ps vs W1 (own_far HHW.out (below_none hb1) (by simp)) (HPW.out.kept (below_none hb1) (fun g h => by cases h)) hl hhl (fun p hp => ⟨(hkd p hp).1, (hkd p hp).2.1⟩)
    rw [hbd] at this; exact this
  rw [hbd] at q3
  have hBn : Bn < W.heap.size := World.block_lt_of_cell? W ⟨Bn, 0, none⟩ q0
  clear hW hMx hJ hJx hY h0 hparts hhead hkd htx hw0 hbox hbd HBA HBC
  refine callsIn_of_wp Tryz.func60 rfl trivial ?_ rfl
  simp only [Tryz.ntmps60, List.size_toArray, List.length_cons, List.length_nil, Nat.reduceAdd, Nat.reduceSub, Array.replicate_succ, Array.replicate_zero, List.push_toArray, List.append_toArray, List.nil_append, List.cons_append]
  gi_wp2_with fail
  refine ⟨trivial, fun h => (by cases h), ?_⟩
  refine (callsIn_wide.2 HBI.out).mono ?_
  rintro e W1 ⟨b, nn, hbW, rfl, hmap1, hb1⟩
  have z0 := (hb1.cell (p := ⟨Bn, 0, none⟩) hBn).trans q0
  have z1 := (hb1.cell (p := ⟨Bn, 1, none⟩) hBn).trans q1
  have z2 := (hb1.cell (p := ⟨Bn, 2, none⟩) hBn).trans q2
  have z3 := (hb1.cell (p := ⟨Bn, 3, none⟩) hBn).trans q3
  have HM1 := hide hmap1
  have HB1 := hide hb1
  clear hmap1 hb1 q0 q1 q2 q3
  gi_wp2_with fail
  refine ⟨trivial, fun h => (by cases h), ?_⟩
  refine (callsIn_wide.2 (HWA.out W1 HB1.out)).mono ?_
  rintro e W2 ⟨⟨v2, rfl, hown2⟩, hb2⟩
  have HM2 : Hid (W2.ownsMap Tryz.prog 9 unitElem b nn (setU (bindsX (bodyX ps vs)))) := mapAt HM1.out (hb2.block _ (mapLt HM1.out))
  have HB2 : Hid (Below W.heap.size W W2) := HB1.out.trans (hb2.mono HB1.out.size)
  have HR2 : Hid (Rnd (fun _ => False) W W2) := Rnd.of_below HB2.out
  have HJ2 : Hid (J [] W2) := HJ.out _ _ _ H0.out HB2.out
  obtain ⟨ws, HWS⟩ : ∃ ws, Hid (ws = wantsL hts ps) := ⟨_, rfl⟩
  rw [← HWS.out] at hown2
  have HUL : Hid (unbL hts ps = ws.filter fun t => t.isVar && !boundV ps t.text) := by show _ = _; rw [HWS.out]; rfl
  have hv2 := own_slice hown2
  obtain ⟨a2, HA2⟩ : ∃ a, Hid (a = sliceA v2) := ⟨_, rfl⟩
  obtain ⟨c2, HC2⟩ : ∃ c, Hid (c = sliceC v2) := ⟨_, rfl⟩
  rw [← HA2.out, ← HC2.out] at hv2
  have HTC : Hid (∀ k, k < ws.length → ∃ g, a2 = some ⟨g, 0, none⟩ ∧ g < W2.heap.size ∧ W2.cell? ⟨g, k * 3, none⟩ = some (.bool (ws.getD k ⟨false, [], 0⟩).isVar) ∧ W2.cell? ⟨g, k * 3 + 1, none⟩ = some (.string (str (ws.getD k ⟨false, [], 0⟩).text)) ∧ W2.cell? ⟨g, k * 3 + 2, none⟩ = some (.int .i64 ((ws.getD k ⟨false, [], 0⟩).place : Nat))) := by
    intro k hk
    rcases own_terms hown2 with ⟨_, h0⟩ | ⟨g, cap, hvg, _, hg, hcc⟩
    · rw [h0] at hk; simp at hk
    · obtain ⟨t0, t1, t2⟩ := hcc k hk
      have e : ws.getD k ⟨false, [], 0⟩ = ws[k] := by simp [List.getD, hk]
      rw [e]
      exact ⟨g, by rw [HA2.out, hvg]; rfl, hg, t0, t1, t2⟩
  have hwl2 : ws.length ≤ 2000000000000 := by rw [HWS.out]; exact hwl
  have HTX2 : Hid (∀ t ∈ ws, t.text.length ≤ 1000000) := by rw [HWS.out]; exact HTX.out
  clear HA2 HC2 hown2 hb2 hwl
  subst hv2
  obtain ⟨f, HF⟩ : ∃ f : PTerm → Bool, Hid (f = fun t => t.isVar && !boundV ps t.text) := ⟨_, rfl⟩
  rw [← HF.out] at HUL
  gi_wp2
  gi_loopw [13] (fun iv wr => ∃ k : Nat, k ≤ ws.length ∧ iv = .int .i64 k ∧ Hid (J ((ws.take k).filter f) wr) ∧ Hid (Rnd (fun _ => False) W2 wr)) (fun iv _ => ws.length - (intOf iv).toNat)
  case atStart => exact ⟨0, by omega, rfl, by simpa using HJ2, Rnd.refl _ _⟩
  case round =>
    obtain ⟨k, hk, rfl, HJK, HRW⟩ := hrel
    by_cases hlt : k < ws.length
    · obtain ⟨g, rfl, hgw, t0, t1, t2⟩ := HTC.out k hlt
      have hgk : ws.getD k ⟨false, [], 0⟩ = ws[k] := by simp [List.getD, hlt]
      rw [hgk] at t0 t1 t2
      have HFN : Hid ((ws.take (k + 1)).filter f = (ws.take k).filter f ++ (if f ws[k] then [ws[k]] else [])) := filter_next f ws k hlt
      have hsx : ws[k].text.length ≤ 1000000 := HTX2.out _ (List.getElem_mem hlt)
      obtain ⟨t, HT⟩ : ∃ t, Hid (t = ws[k]) := ⟨ws[k], (rfl : ws[k] = _)⟩
      rw [← HT.out] at t0 t1 t2 HFN hsx
      replace t0 := HRW.out.cell t0 (fun h => h)
      replace t1 := HRW.out.cell t1 (fun h => h)
      replace t2 := HRW.out.cell t2 (fun h => h)
      have hkey : keyOf Tryz.prog 9 (.string (str t.text)) = some (.string t.text) := by
        have := keyOf_string_mk Tryz.underlying9 (s := str t.text) (by rw [str_size]; unfold maxLen; omega)
        rw [data_str] at this; exact this
      have hhas : Maps.has (setU (bindsX (bodyX ps vs))) (.string t.text) = boundV ps t.text := by rw [setU_has]; exact bindsX_bound ps vs HLV.out t.text
      have HFT : Hid (f t = (t.isVar && !boundV ps t.text)) := by show _ = _; rw [HF.out]
      have HSP : Hid ((ws.take (k + 1)).filter f <+: unbL hts ps) := by rw [HUL.out]; exact filter_split f ws (k + 1)
      obtain ⟨sx, HSX⟩ : ∃ sx, Hid (sx = str t.text) := ⟨_, rfl⟩
      rw [← HSX.out] at hkey t1
      obtain ⟨wb, HWB⟩ : ∃ wb, Hid (wb = wr.alloc (.cells #[.bool t.isVar, .string sx, .int .i64 (t.place : Nat)] 76)) := ⟨_, rfl⟩
      have hwb := HWB.out.symm
      have HRB : Hid (Rnd (fun _ => False) wr wb) := by rw [HWB.out]; exact (Rnd.refl _ _).alloc _
      have b0 : wb.cell? ⟨wr.heap.size, 0, none⟩ = some (.bool t.isVar) := by rw [HWB.out, World.cell?_alloc_at _ _ _ _ rfl]; rfl
      have b1 : wb.cell? ⟨wr.heap.size, 1, none⟩ = some (.string sx) := by rw [HWB.out, World.cell?_alloc_at _ _ _ _ rfl]; rfl
      have b2 : wb.cell? ⟨wr.heap.size, 2, none⟩ = some (.int .i64 (t.place : Nat)) := by rw [HWB.out, World.cell?_alloc_at _ _ _ _ rfl]; rfl
      have hownb : wb.ownsMap Tryz.prog 9 unitElem b nn (setU (bindsX (bodyX ps vs))) := mapAt HM2.out ((HRW.out.trans HRB.out).block _ (mapLt HM2.out) (fun h => h))
      obtain ⟨wc, HWC⟩ : ∃ wc, Hid (wc = wb.alloc (.cells #[] 123)) := ⟨_, rfl⟩
      have hwc := HWC.out.symm
      have HRC : Hid (Rnd (fun _ => False) wb wc) := by rw [HWC.out]; exact (Rnd.refl _ _).alloc _
      have d0 := HRC.out.cell b0 (fun h => h)
      have d1 := HRC.out.cell b1 (fun h => h)
      have d2 := HRC.out.cell b2 (fun h => h)
      have HRWC : Hid (Rnd (fun _ => False) wr wc) := HRB.out.trans HRC.out
      have HR2C : Hid (Rnd (fun _ => False) W2 wc) := HRW.out.trans HRWC.out
      have HJC : Hid (J ((ws.take k).filter f) wc) := HJ.out _ _ _ HJK.out ((HRWC.out.below (n := wr.heap.size) (Nat.le_refl _) (fun _ h => h.elim)).mono (Nat.le_trans HR2.out.size HRW.out.size))
      clear HWB HWC
      cases hbv : boundV ps t.text with
      | true =>
        rw [hbv] at hhas HFT
        have HFS : Hid ((ws.take (k + 1)).filter f = (ws.take k).filter f) := by show _ = _; rw [HFN.out, HFT.out]; simp
        rw [← HFS.out] at HJC
        gi_wp2_with (first
          | (gi_at_lookup; refine wpListIn_lookup_own_unit _ rfl _ _ 120 rfl 9 123 keyedS Tryz.underlying120 (zeroU _) b nn _ rfl hownb _ _ rfl hkey ?_; rw [hhas])
          | fail)
        exact ⟨⟨k + 1, by omega, by go_num, HJC, HR2C⟩, by simp [intOf]; omega⟩
      | false =>
        rw [hbv] at hhas HFT
        cases htv : t.isVar with
        | false =>
          rw [htv] at HFT t0 hwb b0 d0
          have HFS : Hid ((ws.take (k + 1)).filter f = (ws.take k).filter f) := by show _ = _; rw [HFN.out, HFT.out]; simp
          rw [← HFS.out] at HJC
          gi_wp2_with (first
            | (gi_at_lookup; refine wpListIn_lookup_own_unit _ rfl _ _ 120 rfl 9 123 keyedS Tryz.underlying120 (zeroU _) b nn _ rfl hownb _ _ rfl hkey ?_; rw [hhas])
            | fail)
          exact ⟨⟨k + 1, by omega, by go_num, HJC, HR2C⟩, by simp [intOf]; omega⟩
        | true =>
          rw [htv] at HFT t0 hwb b0 d0
          have HFS : Hid ((ws.take (k + 1)).filter f = (ws.take k).filter f ++ [t]) := by show _ = _; rw [HFN.out, HFT.out]; simp
          obtain ⟨fn, tmps, assign, body, hy, hR⟩ := HY.out _ t wc HJC.out (HR2.out.trans HR2C.out) (by rw [← HFS.out]; exact HSP.out)
          dsimp only [aggT] at hy
          rw [← HSX.out, htv] at hy
          have HRR := hide hR
          clear hR
          gi_wp2_with (first
            | (gi_at_lookup; refine wpListIn_lookup_own_unit _ rfl _ _ 120 rfl 9 123 keyedS Tryz.underlying120 (zeroU _) b nn _ rfl hownb _ _ rfl hkey ?_; rw [hhas])
            | fail)
          clear hy
          refine ⟨fun h => (by cases h), HRR.out.mono ?_⟩
          rintro e W3 (⟨rfl, hJ3, hr3⟩ | ⟨rfl, hJx3, -⟩)
          · have HJ3 : Hid (J ((ws.take (k + 1)).filter f) W3) := by rw [HFS.out]; exact hJ3
            have HR3 : Hid (Rnd (fun _ => False) W2 W3) := HR2C.out.trans hr3
            clear hJ3 hr3
            gi_wp2
            exact ⟨⟨k + 1, by omega, by go_num, HJ3, HR3⟩, by simp [intOf]; omega⟩
          · have HX3 : Hid (∃ pre, pre <+: unbL hts ps ∧ Jx pre W3) := ⟨_, HSP.out, by rw [HFS.out]; exact hJx3⟩
            clear hJx3
            gi_wp2
            refine bodyPost_ret (results_none rfl _ _ _) rfl ?_
            exact ⟨⟨_, rfl⟩, .inr HX3.out⟩
    · have HE : Hid (J (unbL hts ps) wr) := by
        have := HJK.out
        rw [List.take_of_length_le (by omega)] at this
        rw [HUL.out]; exact this
      gi_wp2
      go_end0
      exact ⟨⟨_, rfl⟩, .inl ⟨_, rfl, HE.out, HR2.out.trans HRW.out⟩⟩
end Go.Proofs.YtgllfcoafgphbaaGreatDoor
