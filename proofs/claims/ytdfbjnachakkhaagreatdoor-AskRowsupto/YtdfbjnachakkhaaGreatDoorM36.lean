import Derived.Test.YtdfbjnachakkhaaGreatDoorM04
import Derived.Test.YtdfbjnachakkhaaGreatDoorM35
namespace Go.Proofs.YtdfbjnachakkhaaGreatDoor
open Go.ChangeShapes Go.WideShapes Go.ChangeAt Go.RowKit Go.Hands
set_option linter.unusedVariables false
attribute [local go_sem] Oper.semAt_some
/-- a term as it is handed out -/
def aggT (x : PTerm) : Value := .agg #[.bool x.isVar, .string (str x.text), .int .i64 (x.place : Nat)]
end Go.Proofs.YtdfbjnachakkhaaGreatDoor

namespace Go.Proofs.YtdfbjnachakkhaaGreatDoor
open Go.ChangeShapes Go.WideShapes Go.ChangeAt Go.RowKit Go.Hands Go.WideMaps Go.Maps
set_option linter.unusedVariables false
attribute [local go_sem] Oper.semAt_some
/-- the variables that nothing binds -/
def unbL (hts : List PTerm) (ps : List PPart) : List PTerm := (wantsL hts ps).filter fun t => t.isVar && !boundV ps t.text
set_option maxRecDepth 100000 in
set_option maxHeartbeats 1000000 in
theorem unbound_any (name : ByteArray) (ha : Option Addr) (hn hc : Nat) (place : Int) (ba : Option Addr) (bn bc : Nat) (w : World) :
    Calls Tryz.prog 28 #[.agg #[.string name, .slice ha hn hc, .int .i64 place, .slice ba bn bc]] w fun e w' => e = .returned (.func (.func 51) #[] #[.pointer (some ⟨w.heap.size, 0, none⟩)]) ∧ w' = w.alloc (.cells #[.string name, .slice ha hn hc, .int .i64 place, .slice ba bn bc] 82) := by
  go_enter Tryz.func28, Tryz.ntmps28
  go_wp2
  go_ret
  exact ⟨rfl, rfl⟩
theorem below_none {A B : World} (h : Below A.heap.size A B) : A.grownBy B none := ⟨h.os, h.tape, h.output, h.size, fun k hk _ => h.block k hk⟩
theorem filter_next {α : Type} (f : α → Bool) (l : List α) (k : Nat) (h : k < l.length) : (l.take (k + 1)).filter f = (l.take k).filter f ++ (if f l[k] then [l[k]] else []) := by
  rw [List.take_succ_eq_append_getElem h, List.filter_append]
  congr 1
  by_cases hf : f l[k] <;> simp [hf]
theorem filter_split {α : Type} (f : α → Bool) (l : List α) (k : Nat) : (l.take k).filter f <+: l.filter f := by
  conv => rhs; rw [← List.take_append_drop k l, List.filter_append]
  exact List.prefix_append _ _
set_option maxRecDepth 100000 in
set_option maxHeartbeats 4000000 in
theorem unbound_hands (n base Bn : Nat) (name : List UInt8) (ha : Option Addr) (hc place : Nat) (hts : List PTerm) (bd : Value) (ps : List PPart) (vs : List Value) (w0 w : World) (hw0 : Rnd (fun _ => False) w0 w) (hbox : RuleBox w Bn name ha hts.length hc place bd)
    (hhead : w0.ownsRow base 65 3 (.slice ha hts.length hc) hts.length (termsV hts)) (hparts : PartsAt 65 67 base w0 bd ps vs)
    (hl : ps.length ≤ 1000000) (hhl : hts.length ≤ 1000000) (hkd : ∀ p ∈ ps, p.kind ≤ 1000 ∧ p.atom.args.length ≤ 1000000 ∧ ∀ t ∈ p.atom.args, t.text.length ≤ 1000000) (htx : ∀ t ∈ wantsL hts ps, t.text.length ≤ 1000000) (hwl : (wantsL hts ps).length ≤ 2000000000000) (hn1 : 9 ≤ n) :
    Hands Fence.wide n Tryz.prog 51 #[.pointer (some ⟨Bn, 0, none⟩)] (fun x : PTerm => #[aggT x]) (fun _ => False) (fun ys => ys = unbL hts ps) (fun pre => pre <+: unbL hts ps) w := by
  intro l Mx J Jx W hW hMx hJ hJx hY h0
  have HJ : Hid (Low W.heap.size J) := hJ
  have HJX : Hid (Low W.heap.size Jx) := hJx
  have HY := hide hY
  have H0 := hide h0
  obtain ⟨q0, q1, q2, q3⟩ := hbox.rnd hW (fun hm => hm)
  have hbd := own_slice hparts.own
  obtain ⟨bda, HBA⟩ : ∃ a, Hid (a = sliceA bd) := ⟨_, rfl⟩
  obtain ⟨bdc, HBC⟩ : ∃ c, Hid (c = sliceC bd) := ⟨_, rfl⟩
  rw [← HBA.out, ← HBC.out] at hbd
  have HBD := hide hbd
  have HKD := hide hkd
  have HTX := hide htx
  have HLV := hide hparts.len
  have HPW : Hid (PartsAt 65 67 base W bd ps vs) := hparts.kept (rnd_none (hw0.trans hW)) (fun g h => by cases h)
  have HHW : Hid (W.ownsRow base 65 3 (.slice ha hts.length hc) hts.length (termsV hts)) := own_far hhead (rnd_none (hw0.trans hW)) (by simp)
  have HBXS : Hid (∀ x ∈ bodyX ps vs, x.args.length ≤ 1000000 ∧ ∀ t ∈ x.args, t.text.length ≤ 1000000) := by
    intro x hx
    obtain ⟨i, p, u, hp, _, _, rfl⟩ := bodyX_mem hx
    exact (hkd p (List.mem_of_getElem? hp)).2
  have HBI : Hid (Calls Tryz.prog 52 #[.agg #[.string (str name), .slice ha hts.length hc, .int .i64 (place : Nat), .slice bda ps.length bdc]] W fun e w' => ∃ (b nn : Nat), W.heap.size ≤ b ∧ e = .returned (.map (some b)) ∧ w'.ownsMap Tryz.prog 9 unitElem b nn (setU (bindsX (bodyX ps vs))) ∧ Below W.heap.size W w') := by
    have := binds_any base (str name) ha hts.length hc (place : Nat) bd ps vs W W (Rnd.refl _ _) HPW.out hl (fun p hp => (hkd p hp).1) HBXS.out
    rw [hbd] at this; exact this
  have HWA : Hid (∀ W1, Below W.heap.size W W1 → Calls Tryz.prog 53 #[.agg #[.string (str name), .slice ha hts.length hc, .int .i64 (place : Nat), .slice bda ps.length bdc]] W1 fun e w' => (∃ v', e = .returned v' ∧ w'.ownsRow W1.heap.size 65 3 v' (wantsL hts ps).length (termsV (wantsL hts ps))) ∧ Below W1.heap.size W1 w') := by
    intro W1 hb1
    have := wants_any base (str name) ha hc (place : Nat) hts bd ps vs W1 (own_far HHW.out (below_none hb1) (by simp)) (HPW.out.kept (below_none hb1) (fun g h => by cases h)) hl hhl (fun p hp => ⟨(hkd p hp).1, (hkd p hp).2.1⟩)
    rw [hbd] at this; exact this
  rw [hbd] at q3
  have hBn : Bn < W.heap.size := World.block_lt_of_cell? W ⟨Bn, 0, none⟩ q0
  clear hW hMx hJ hJx hY h0 hparts hhead hkd htx hw0 hbox hbd HBA HBC
  refine callsIn_of_wp Tryz.func51 rfl trivial ?_ rfl
  simp only [Tryz.ntmps51, List.size_toArray, List.length_cons, List.length_nil, Nat.reduceAdd, Nat.reduceSub, Array.replicate_succ, Array.replicate_zero, List.push_toArray, List.append_toArray, List.nil_append, List.cons_append]
  gi_wp2_with fail
  refine ⟨trivial, fun h => (by cases h), ?_⟩
  refine (callsIn_wide.2 HBI.out).mono ?_
  rintro e W1 ⟨b, nn, hbW, rfl, hmap1, hb1⟩
  have z0 := (hb1.cell (p := ⟨Bn, 0, none⟩) hBn).trans q0
  have z1 := (hb1.cell (p := ⟨Bn, 1, none⟩) hBn).trans q1
  have z2 := (hb1.cell (p := ⟨Bn, 2, none⟩) hBn).trans q2
  have z3 := (hb1.cell (p := ⟨Bn, 3, none⟩) hBn).trans q3
  have HM1 := hide hmap1
  have HB1 := hide hb1
  clear hmap1 hb1 q0 q1 q2 q3
  gi_wp2_with fail
  refine ⟨trivial, fun h => (by cases h), ?_⟩
  refine (callsIn_wide.2 (HWA.out W1 HB1.out)).mono ?_
  rintro e W2 ⟨⟨v2, rfl, hown2⟩, hb2⟩
  have HM2 : Hid (W2.ownsMap Tryz.prog 9 unitElem b nn (setU (bindsX (bodyX ps vs)))) := mapAt HM1.out (hb2.block _ (mapLt HM1.out))
  have HB2 : Hid (Below W.heap.size W W2) := HB1.out.trans (hb2.mono HB1.out.size)
  have HR2 : Hid (Rnd (fun _ => False) W W2) := Rnd.of_below HB2.out
  have HJ2 : Hid (J [] W2) := HJ.out _ _ _ H0.out HB2.out
  obtain ⟨ws, HWS⟩ : ∃ ws, Hid (ws = wantsL hts ps) := ⟨_, rfl⟩
  rw [← HWS.out] at hown2
  have HUL : Hid (unbL hts ps = ws.filter fun t => t.isVar && !boundV ps t.text) := by show _ = _; rw [HWS.out]; rfl
  have hv2 := own_slice hown2
  obtain ⟨a2, HA2⟩ : ∃ a, Hid (a = sliceA v2) := ⟨_, rfl⟩
  obtain ⟨c2, HC2⟩ : ∃ c, Hid (c = sliceC v2) := ⟨_, rfl⟩
  rw [← HA2.out, ← HC2.out] at hv2
  have HTC : Hid (∀ k, k < ws.length → ∃ g, a2 = some ⟨g, 0, none⟩ ∧ g < W2.heap.size ∧ W2.cell? ⟨g, k * 3, none⟩ = some (.bool (ws.getD k ⟨false, [], 0⟩).isVar) ∧ W2.cell? ⟨g, k * 3 + 1, none⟩ = some (.string (str (ws.getD k ⟨false, [], 0⟩).text)) ∧ W2.cell? ⟨g, k * 3 + 2, none⟩ = some (.int .i64 ((ws.getD k ⟨false, [], 0⟩).place : Nat))) := by
    intro k hk
    rcases own_terms hown2 with ⟨_, h0⟩ | ⟨g, cap, hvg, _, hg, hcc⟩
    · rw [h0] at hk; simp at hk
    · obtain ⟨t0, t1, t2⟩ := hcc k hk
      have e : ws.getD k ⟨false, [], 0⟩ = ws[k] := by simp [List.getD, hk]
      rw [e]
      exact ⟨g, by rw [HA2.out, hvg]; rfl, hg, t0, t1, t2⟩
  have hwl2 : ws.length ≤ 2000000000000 := by rw [HWS.out]; exact hwl
  have HTX2 : Hid (∀ t ∈ ws, t.text.length ≤ 1000000) := by rw [HWS.out]; exact HTX.out
  clear HA2 HC2 hown2 hb2 hwl
  subst hv2
  obtain ⟨f, HF⟩ : ∃ f : PTerm → Bool, Hid (f = fun t => t.isVar && !boundV ps t.text) := ⟨_, rfl⟩
  rw [← HF.out] at HUL
  gi_wp2
  gi_loopw [13] (fun iv wr => ∃ k : Nat, k ≤ ws.length ∧ iv = .int .i64 k ∧ Hid (J ((ws.take k).filter f) wr) ∧ Hid (Rnd (fun _ => False) W2 wr)) (fun iv _ => ws.length - (intOf iv).toNat)
  case atStart => exact ⟨0, by omega, rfl, by simpa using HJ2, Rnd.refl _ _⟩
  case round =>
    obtain ⟨k, hk, rfl, HJK, HRW⟩ := hrel
    by_cases hlt : k < ws.length
    · obtain ⟨g, rfl, hgw, t0, t1, t2⟩ := HTC.out k hlt
      have hgk : ws.getD k ⟨false, [], 0⟩ = ws[k] := by simp [List.getD, hlt]
      rw [hgk] at t0 t1 t2
      have HFN : Hid ((ws.take (k + 1)).filter f = (ws.take k).filter f ++ (if f ws[k] then [ws[k]] else [])) := filter_next f ws k hlt
      have hsx : ws[k].text.length ≤ 1000000 := HTX2.out _ (List.getElem_mem hlt)
      obtain ⟨t, HT⟩ : ∃ t, Hid (t = ws[k]) := ⟨ws[k], (rfl : ws[k] = _)⟩
      rw [← HT.out] at t0 t1 t2 HFN hsx
      replace t0 := HRW.out.cell t0 (fun h => h)
      replace t1 := HRW.out.cell t1 (fun h => h)
      replace t2 := HRW.out.cell t2 (fun h => h)
      have hkey : keyOf Tryz.prog 9 (.string (str t.text)) = some (.string t.text) := by
        have := keyOf_string_mk Tryz.underlying9 (s := str t.text) (by rw [str_size]; unfold maxLen; omega)
        rw [data_str] at this; exact this
      have hhas : Maps.has (setU (bindsX (bodyX ps vs))) (.string t.text) = boundV ps t.text := by rw [setU_has]; exact bindsX_bound ps vs HLV.out t.text
      have HFT : Hid (f t = (t.isVar && !boundV ps t.text)) := by show _ = _; rw [HF.out]
      have HSP : Hid ((ws.take (k + 1)).filter f <+: unbL hts ps) := by rw [HUL.out]; exact filter_split f ws (k + 1)
      obtain ⟨sx, HSX⟩ : ∃ sx, Hid (sx = str t.text) := ⟨_, rfl⟩
      rw [← HSX.out] at hkey t1
      obtain ⟨wb, HWB⟩ : ∃ wb, Hid (wb = wr.alloc (.cells #[.bool t.isVar, .string sx, .int .i64 (t.place : Nat)] 65)) := ⟨_, rfl⟩
      have hwb := HWB.out.symm
      have HRB : Hid (Rnd (fun _ => False) wr wb) := by rw [HWB.out]; exact (Rnd.refl _ _).alloc _
      have b0 : wb.cell? ⟨wr.heap.size, 0, none⟩ = some (.bool t.isVar) := by rw [HWB.out, World.cell?_alloc_at _ _ _ _ rfl]; rfl
      have b1 : wb.cell? ⟨wr.heap.size, 1, none⟩ = some (.string sx) := by rw [HWB.out, World.cell?_alloc_at _ _ _ _ rfl]; rfl
      have b2 : wb.cell? ⟨wr.heap.size, 2, none⟩ = some (.int .i64 (t.place : Nat)) := by rw [HWB.out, World.cell?_alloc_at _ _ _ _ rfl]; rfl
      have hownb : wb.ownsMap Tryz.prog 9 unitElem b nn (setU (bindsX (bodyX ps vs))) := mapAt HM2.out ((HRW.out.trans HRB.out).block _ (mapLt HM2.out) (fun h => h))
      obtain ⟨wc, HWC⟩ : ∃ wc, Hid (wc = wb.alloc (.cells #[] 76)) := ⟨_, rfl⟩
      have hwc := HWC.out.symm
      have HRC : Hid (Rnd (fun _ => False) wb wc) := by rw [HWC.out]; exact (Rnd.refl _ _).alloc _
      have d0 := HRC.out.cell b0 (fun h => h)
      have d1 := HRC.out.cell b1 (fun h => h)
      have d2 := HRC.out.cell b2 (fun h => h)
      have HRWC : Hid (Rnd (fun _ => False) wr wc) := HRB.out.trans HRC.out
      have HR2C : Hid (Rnd (fun _ => False) W2 wc) := HRW.out.trans HRWC.out
      have HJC : Hid (J ((ws.take k).filter f) wc) := HJ.out _ _ _ HJK.out ((HRWC.out.below (n := wr.heap.size) (Nat.le_refl _) (fun _ h => h.elim)).mono (Nat.le_trans HR2.out.size HRW.out.size))
      clear HWB HWC
      cases hbv : boundV ps t.text with
      | true =>
        rw [hbv] at hhas HFT
        have HFS : Hid ((ws.take (k + 1)).filter f = (ws.take k).filter f) := by show _ = _; rw [HFN.out, HFT.out]; simp
        rw [← HFS.out] at HJC
        gi_wp2_with (first
          | (gi_at_lookup; refine wpListIn_lookup_own_unit _ rfl _ _ 73 rfl 9 76 keyedS Tryz.underlying73 (zeroU _) b nn _ rfl hownb _ _ rfl hkey ?_; rw [hhas])
          | fail)
        exact ⟨⟨k + 1, by omega, by go_num, HJC, HR2C⟩, by simp [intOf]; omega⟩
      | false =>
        rw [hbv] at hhas HFT
        cases htv : t.isVar with
        | false =>
          rw [htv] at HFT t0 hwb b0 d0
          have HFS : Hid ((ws.take (k + 1)).filter f = (ws.take k).filter f) := by show _ = _; rw [HFN.out, HFT.out]; simp
          rw [← HFS.out] at HJC
          gi_wp2_with (first
            | (gi_at_lookup; refine wpListIn_lookup_own_unit _ rfl _ _ 73 rfl 9 76 keyedS Tryz.underlying73 (zeroU _) b nn _ rfl hownb _ _ rfl hkey ?_; rw [hhas])
            | fail)
          exact ⟨⟨k + 1, by omega, by go_num, HJC, HR2C⟩, by simp [intOf]; omega⟩
        | true =>
          rw [htv] at HFT t0 hwb b0 d0
          have HFS : Hid ((ws.take (k + 1)).filter f = (ws.take k).filter f ++ [t]) := by show _ = _; rw [HFN.out, HFT.out]; simp
          obtain ⟨fn, tmps, assign, body, hy, hR⟩ := HY.out _ t wc HJC.out (HR2.out.trans HR2C.out) (by rw [← HFS.out]; exact HSP.out)
          dsimp only [aggT] at hy
          rw [← HSX.out, htv] at hy
          have HRR := hide hR
          clear hR
          gi_wp2_with (first
            | (gi_at_lookup; refine wpListIn_lookup_own_unit _ rfl _ _ 73 rfl 9 76 keyedS Tryz.underlying73 (zeroU _) b nn _ rfl hownb _ _ rfl hkey ?_; rw [hhas])
            | fail)
          clear hy
          refine ⟨fun h => (by cases h), HRR.out.mono ?_⟩
          rintro e W3 (⟨rfl, hJ3, hr3⟩ | ⟨rfl, hJx3, -⟩)
          · have HJ3 : Hid (J ((ws.take (k + 1)).filter f) W3) := by rw [HFS.out]; exact hJ3
            have HR3 : Hid (Rnd (fun _ => False) W2 W3) := HR2C.out.trans hr3
            clear hJ3 hr3
            gi_wp2
            exact ⟨⟨k + 1, by omega, by go_num, HJ3, HR3⟩, by simp [intOf]; omega⟩
          · have HX3 : Hid (∃ pre, pre <+: unbL hts ps ∧ Jx pre W3) := ⟨_, HSP.out, by rw [HFS.out]; exact hJx3⟩
            clear hJx3
            gi_wp2
            refine bodyPost_ret (results_none rfl _ _ _) rfl ?_
            exact ⟨⟨_, rfl⟩, .inr HX3.out⟩
    · have HE : Hid (J (unbL hts ps) wr) := by
        have := HJK.out
        rw [List.take_of_length_le (by omega)] at this
        rw [HUL.out]; exact this
      gi_wp2
      go_end0
      exact ⟨⟨_, rfl⟩, .inl ⟨_, rfl, HE.out, HR2.out.trans HRW.out⟩⟩
end Go.Proofs.YtdfbjnachakkhaaGreatDoor
