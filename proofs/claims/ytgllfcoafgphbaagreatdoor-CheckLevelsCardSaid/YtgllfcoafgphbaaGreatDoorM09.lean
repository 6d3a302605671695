import Derived.Test.YtgllfcoafgphbaaGreatDoorM01
import Derived.Test.YtgllfcoafgphbaaGreatDoorM08
import Derived.Shelf.Abstract
/-
  The program's walk.hasAtom, walk.Body, walked.
-/
namespace Go.Proofs.YtgllfcoafgphbaaGreatDoor
open Go.ChangeShapes Go.WideShapes Go.ChangeAt Go.RowKit Go.Hands
set_option linter.unusedVariables false
/-- an atom as it is handed out: with its part's kind, and where its terms lie -/
structure BX where
  kind : Nat
  name : List UInt8
  n : Nat
  ua : Option Addr
  uc : Nat
  place : Nat
  args : List PTerm
def BX.atomV (x : BX) : Value := .agg #[.string (str x.name), .slice x.ua x.n x.uc, .int .i64 (x.place : Nat)]
def sliceA : Value → Option Addr
  | .slice a _ _ => a
  | _ => none
def sliceC : Value → Nat
  | .slice _ _ c => c
  | _ => 0
def bxOf (p : PPart) (u : Value) : BX := ⟨p.kind, p.atom.name, p.atom.args.length, sliceA u, sliceC u, p.atom.place, p.atom.args⟩
/-- the atoms of a body, in their order -/
def bodyX (ps : List PPart) (vs : List Value) : List BX := ((ps.zip vs).filter fun q => q.1.kind == 0 || q.1.kind == 1).map fun q => bxOf q.1 q.2
theorem bodyX_next (ps : List PPart) (vs : List Value) (k : Nat) (h1 : k < ps.length) (h2 : k < vs.length) : bodyX (ps.take (k + 1)) (vs.take (k + 1)) = bodyX (ps.take k) (vs.take k) ++ (if ps[k].kind == 0 || ps[k].kind == 1 then [bxOf ps[k] vs[k]] else []) := by
  unfold bodyX
  rw [List.take_succ_eq_append_getElem h1, List.take_succ_eq_append_getElem h2, List.zip_append (by simp; omega), List.filter_append, List.map_append]
  congr 1
  by_cases hk : (ps[k].kind == 0 || ps[k].kind == 1) <;> simp [hk]
theorem bodyX_split (ps : List PPart) (vs : List Value) (k : Nat) (hl : vs.length = ps.length) : bodyX ps vs = bodyX (ps.take k) (vs.take k) ++ bodyX (ps.drop k) (vs.drop k) := by
  unfold bodyX
  conv => lhs; rw [← List.take_append_drop k ps, ← List.take_append_drop k vs, List.zip_append (by simp; omega), List.filter_append, List.map_append]
theorem own_slice {w : World} {base : Nat} {e : TypeId} {size : Nat} {v : Value} {n : Nat} {xs : List Value} (h : w.ownsRow base e size v n xs) : v = .slice (sliceA v) n (sliceC v) := by
  rcases h.2 with ⟨rfl, h0⟩ | ⟨g, cap, cur, rfl, _⟩
  · rw [h0]; rfl
  · rfl
set_option maxRecDepth 100000 in
set_option maxHeartbeats 1000000 in
theorem hasAtom_any (p : PPart) (ua : Option Addr) (un uc : Nat) (w : World) (hk : p.kind ≤ 1000) :
    Calls Tryz.prog 97 #[.agg (partV p (.slice ua un uc)).toArray] w fun e w' => e = .returned (.bool (p.kind == 0 || p.kind == 1)) ∧ Below w.heap.size w w' := by
  obtain ⟨k, HK⟩ : ∃ k, Hid (k = p.kind) := ⟨_, rfl⟩
  have hkk : k ≤ 1000 := by rw [HK.out]; exact hk
  unfold partV
  rw [← HK.out]
  clear HK hk
  by_cases h0 : k = 0
  · subst h0
    go_enter Tryz.func97, Tryz.ntmps97
    go_wp2
    go_ret
    exact ⟨rfl, (Below.refl _ _).alloc (Nat.le_refl _) _⟩
  · by_cases h1 : k = 1
    · subst h1
      go_enter Tryz.func97, Tryz.ntmps97
      go_wp2
      go_ret
      exact ⟨rfl, (Below.refl _ _).alloc (Nat.le_refl _) _⟩
    · have e0 : ((k : Int) == 0) = false := by rw [beq_eq_false_iff_ne]; omega
      have e1 : ((k : Int) == 1) = false := by rw [beq_eq_false_iff_ne]; omega
      have HE : Hid ((k == 0 || k == 1) = false) := by show _ = _; simp; omega
      go_enter Tryz.func97, Tryz.ntmps97
      go_wp2
      go_ret
      exact ⟨ret_bool HE.out.symm, (Below.refl _ _).alloc (Nat.le_refl _) _⟩
set_option maxRecDepth 100000 in
set_option maxHeartbeats 1000000 in
theorem body_any (name : ByteArray) (ha : Option Addr) (hn hc : Nat) (place : Int) (ba : Option Addr) (bn bc : Nat) (w : World) :
    Calls Tryz.prog 67 #[.agg #[.string name, .slice ha hn hc, .int .i64 place, .slice ba bn bc]] w fun e w' => e = .returned (.func (.func 96) #[] #[.pointer (some ⟨w.heap.size, 0, none⟩)]) ∧ w' = w.alloc (.cells #[.string name, .slice ha hn hc, .int .i64 place, .slice ba bn bc] 112) := by
  go_enter Tryz.func67, Tryz.ntmps67
  go_wp2
  go_ret
  exact ⟨rfl, rfl⟩
attribute [local go_sem] Oper.semAt_some
set_option maxRecDepth 100000 in
set_option maxHeartbeats 4000000 in
theorem body_hands0 (n base Bn : Nat) (bd : Value) (ps : List PPart) (vs : List Value) (M : Nat → Prop) (w0 w : World) (hw0 : Rnd M w0 w) (hbox : w.cell? ⟨Bn, 3, none⟩ = some bd) (hparts : PartsAt 76 164 base w0 bd ps vs) (hlow : ∀ g, bd.ownBlock = some g → ¬ M g)
    (hM : ∀ k, M k → k ≠ Bn) (hl : ps.length ≤ 1000000) (hkd : ∀ p ∈ ps, p.kind ≤ 1000) :
    Hands Fence.wide n Tryz.prog 96 #[.pointer (some ⟨Bn, 0, none⟩)] (fun x : BX => #[.int .i64 (x.kind : Nat), x.atomV]) M (fun ys => ys = bodyX ps vs) (fun pre => pre <+: bodyX ps vs) w := by
  intro l Mx J Jx W hW hMx hJ hJx hY h0
  have hbW := hW.cell hbox (fun hm => hM _ hm rfl)
  have HJ : Hid (Low W.heap.size J) := hJ
  have HY := hide hY
  have HBX : Hid (W.cell? ⟨Bn, 3, none⟩ = some bd) := hbW
  have hBn : Bn < W.heap.size := World.block_lt_of_cell? W ⟨Bn, 3, none⟩ hbW
  refine callsIn_of_wp Tryz.func96 rfl trivial ?_ rfl
  simp only [Tryz.ntmps96, List.size_toArray, List.length_cons, List.length_nil, Nat.reduceAdd, Nat.reduceSub, Array.replicate_succ, Array.replicate_zero, List.push_toArray, List.append_toArray, List.nil_append, List.cons_append]
  have HKD := hide hkd
  have HLN : Hid (vs.length = ps.length) := hparts.len
  have HAR : Hid (∀ (i : Nat) (p : PPart) (u : Value), ps[i]? = some p → vs[i]? = some u → u = .slice (sliceA u) p.atom.args.length (sliceC u)) := fun i p u hp hu => own_slice (hparts.args i p u hp hu)
  have HPC : Hid (∀ k, k < ps.length → ∃ g, sliceA bd = some ⟨g, 0, none⟩ ∧ g < W.heap.size ∧ ¬ M g ∧ ∀ (p : PPart) (u : Value), ps[k]? = some p → vs[k]? = some u → ∀ (j : Nat) (x : Value), (partV p u)[j]? = some x → W.cell? ⟨g, k * 10 + j, none⟩ = some x) := by
    intro k hk
    rcases own_parts hparts with ⟨_, rfl⟩ | ⟨g, cap, rfl, _, hgw, hc, _⟩
    · simp at hk
    · have hnm : ¬ M g := hlow g rfl
      exact ⟨g, rfl, Nat.lt_of_lt_of_le hgw (Nat.le_trans hw0.size hW.size), hnm, fun p u hp hu j x hx => hW.cell (hw0.cell (hc k p u hp hu j x hx) hnm) hnm⟩
  have hbd := own_slice hparts.own
  obtain ⟨bda, HBA⟩ : ∃ a, Hid (a = sliceA bd) := ⟨_, rfl⟩
  obtain ⟨bdc, HBC⟩ : ∃ c, Hid (c = sliceC bd) := ⟨_, rfl⟩
  rw [← HBA.out, ← HBC.out] at hbd
  rw [← HBA.out] at HPC
  rw [hbd] at hbW
  clear hparts hlow hbd HBA HBC HBX hW hJ hY hkd hbox
  have H0 := hide h0
  clear h0
  gi_wp2
  gi_loopw [8] (fun iv wr => ∃ k : Nat, k ≤ ps.length ∧ iv = .int .i64 k ∧ Hid (J (bodyX (ps.take k) (vs.take k)) wr) ∧ Hid (Rnd M W wr)) (fun iv _ => ps.length - (intOf iv).toNat)
  case atStart => exact ⟨0, by omega, rfl, H0, Rnd.refl _ _⟩
  case round =>
    obtain ⟨k, hk, rfl, HJK, HRW⟩ := hrel
    by_cases hlt : k < ps.length
    · have hlv : k < vs.length := by have := HLN.out; omega
      obtain ⟨g, rfl, hgw, hgm, hc⟩ := HPC.out k hlt
      have hc2 := hc ps[k] vs[k] (List.getElem?_eq_getElem hlt) (List.getElem?_eq_getElem hlv)
      have hus := HAR.out k _ _ (List.getElem?_eq_getElem hlt) (List.getElem?_eq_getElem hlv)
      have HBN : Hid (bodyX (ps.take (k + 1)) (vs.take (k + 1)) = bodyX (ps.take k) (vs.take k) ++ (if ps[k].kind == 0 || ps[k].kind == 1 then [bxOf ps[k] vs[k]] else [])) := bodyX_next ps vs k hlt hlv
      have hkp : ps[k].kind ≤ 1000 := HKD.out _ (List.getElem_mem hlt)
      have HBXE : Hid (bxOf ps[k] vs[k] = ⟨ps[k].kind, ps[k].atom.name, ps[k].atom.args.length, sliceA vs[k], sliceC vs[k], ps[k].atom.place, ps[k].atom.args⟩) := rfl
      rw [hus] at hc2
      obtain ⟨p, HP⟩ : ∃ p, Hid (p = ps[k]) := ⟨ps[k], (rfl : ps[k] = _)⟩
      rw [← HP.out] at hc2 hkp HBXE HBN
      obtain ⟨ua, HUA⟩ : ∃ ua, Hid (ua = sliceA vs[k]) := ⟨sliceA vs[k], (rfl : sliceA vs[k] = _)⟩
      obtain ⟨uc, HUC⟩ : ∃ uc, Hid (uc = sliceC vs[k]) := ⟨sliceC vs[k], (rfl : sliceC vs[k] = _)⟩
      rw [← HUA.out, ← HUC.out] at hc2 HBXE
      have hcw : ∀ (j : Nat) (x : Value), (partV p (.slice ua p.atom.args.length uc))[j]? = some x → wr.cell? ⟨g, k * 10 + j, none⟩ = some x := fun j x hx => HRW.out.cell (hc2 j x hx) hgm
      have q0 := hcw 0 _ rfl
      rw [Nat.add_zero] at q0
      have q1 := hcw 1 _ rfl
      have q2 := hcw 2 _ rfl
      have q3 := hcw 3 _ rfl
      have q4 := hcw 4 _ rfl
      have q5 := hcw 5 _ rfl
      have q6 := hcw 6 _ rfl
      have q7 := hcw 7 _ rfl
      have q8 := hcw 8 _ rfl
      have q9 := hcw 9 _ rfl
      clear hc hc2 hus hcw
      have HSP : Hid (bodyX ps vs = bodyX (ps.take (k + 1)) (vs.take (k + 1)) ++ bodyX (ps.drop (k + 1)) (vs.drop (k + 1))) := bodyX_split ps vs (k + 1) HLN.out
      gi_wp2_with fail
      obtain ⟨wb, HWB⟩ : ∃ wb, Hid (wb = wr.alloc (.cells (partV p (.slice ua p.atom.args.length uc)).toArray 164)) := ⟨_, rfl⟩
      have HRB : Hid (Rnd M W wb) := by rw [HWB.out]; exact HRW.out.alloc _
      have HBB : Hid (Below W.heap.size wr wb) := by rw [HWB.out]; exact (Below.refl _ _).alloc HRW.out.size _
      have HCB : Hid (∀ (j : Nat) (x : Value), (partV p (.slice ua p.atom.args.length uc))[j]? = some x → wb.cell? ⟨wr.heap.size, j, none⟩ = some x) := by
        intro j x hx
        rw [HWB.out, World.cell?_alloc_at _ _ _ _ rfl]
        simpa using hx
      have HSB : Hid (wr.heap.size < wb.heap.size) := by rw [HWB.out]; simp [Hid]
      rw [show (wr.alloc (.cells #[Value.int IntKind.i64 (p.kind : Nat), Value.string (str p.atom.name), Value.slice ua p.atom.args.length uc, Value.int IntKind.i64 (p.atom.place : Nat), Value.bool p.left.isVar, Value.string (str p.left.text), Value.int IntKind.i64 (p.left.place : Nat), Value.bool p.right.isVar, Value.string (str p.right.text), Value.int IntKind.i64 (p.right.place : Nat)] 164)) = wb from HWB.out.symm]
      clear HWB q0 q1 q2 q3 q4 q5 q6 q7 q8 q9
      refine ⟨trivial, fun h => (by cases h), ?_⟩
      refine (callsIn_wide.2 (hasAtom_any p ua p.atom.args.length uc wb hkp)).mono ?_
      rintro e w1 ⟨rfl, hb1⟩
      have hcw : ∀ (j : Nat) (x : Value), (partV p (.slice ua p.atom.args.length uc))[j]? = some x → w1.cell? ⟨wr.heap.size, j, none⟩ = some x := fun j x hx => (hb1.cell (p := ⟨wr.heap.size, j, none⟩) HSB.out).trans (HCB.out j x hx)
      have r0 := hcw 0 _ rfl
      have r1 := hcw 1 _ rfl
      have r2 := hcw 2 _ rfl
      have r3 := hcw 3 _ rfl
      have HB1 : Hid (Below W.heap.size wr w1) := HBB.out.trans (hb1.mono (by have := HRB.out.size; omega))
      have HR1 : Hid (Rnd M W w1) := HRB.out.trans (Rnd.of_below hb1)
      have HJ1 : Hid (J (bodyX (ps.take k) (vs.take k)) w1) := HJ.out _ _ _ HJK.out HB1.out
      clear hb1 hcw
      cases hkk : (p.kind == 0 || p.kind == 1) with
      | true =>
        rw [hkk] at HBN
        have HBN2 : Hid (bodyX (ps.take (k + 1)) (vs.take (k + 1)) = bodyX (ps.take k) (vs.take k) ++ [⟨p.kind, p.atom.name, p.atom.args.length, ua, uc, p.atom.place, p.atom.args⟩]) := by
          show _ = _
          rw [HBN.out, if_pos rfl, ← HBXE.out, HP.out]
        have hlen : bodyX (ps.take k) (vs.take k) ++ [⟨p.kind, p.atom.name, p.atom.args.length, ua, uc, p.atom.place, p.atom.args⟩] <+: bodyX ps vs := ⟨_, by rw [← HBN2.out]; exact HSP.out.symm⟩
        obtain ⟨fn, tmps, assign, body, hy, hR⟩ := HY.out _ ⟨p.kind, p.atom.name, p.atom.args.length, ua, uc, p.atom.place, p.atom.args⟩ w1 HJ1.out HR1.out hlen
        dsimp only [BX.atomV] at hy
        have HRR := hide hR
        clear hR hlen hkk
        gi_wp2
        refine ⟨fun h => (by cases h), HRR.out.mono ?_⟩
        rintro e W3 (⟨rfl, hJ3, hr3⟩ | ⟨rfl, hJx3, -⟩)
        · have HJ3 : Hid (J (bodyX (ps.take (k + 1)) (vs.take (k + 1))) W3) := by rw [HBN2.out]; exact hJ3
          have HR3 : Hid (Rnd M W W3) := HR1.out.trans hr3
          clear hJ3 hr3
          gi_wp2
          go_roundw
          case rel => exact ⟨k + 1, by omega, by go_num, HJ3, HR3⟩
          case measure => simp [intOf]; omega
        · have HX3 : Hid (∃ pre, pre <+: bodyX ps vs ∧ Jx pre W3) := ⟨bodyX (ps.take (k + 1)) (vs.take (k + 1)), ⟨_, HSP.out.symm⟩, by rw [HBN2.out]; exact hJx3⟩
          clear hJx3
          gi_wp2
          refine bodyPost_ret (results_none rfl _ _ _) rfl ?_
          exact ⟨⟨_, rfl⟩, .inr HX3.out⟩
      | false =>
        rw [hkk] at HBN
        have HJ3 : Hid (J (bodyX (ps.take (k + 1)) (vs.take (k + 1))) w1) := by
          have e : bodyX (ps.take (k + 1)) (vs.take (k + 1)) = bodyX (ps.take k) (vs.take k) := by rw [HBN.out, if_neg (by simp), List.append_nil]
          rw [e]; exact HJ1.out
        clear hkk HBN
        gi_wp2
        go_roundw
        case rel => exact ⟨k + 1, by omega, by go_num, HJ3, HR1⟩
        case measure => simp [intOf]; omega
    · have HE : Hid (J (bodyX ps vs) wr) := by
        have := HJK.out
        rw [List.take_of_length_le (by omega), List.take_of_length_le (by have := HLN.out; omega)] at this
        exact this
      gi_wp2
      go_end0
      exact ⟨⟨_, rfl⟩, .inl ⟨_, rfl, HE.out, HRW.out⟩⟩
theorem body_hands (n base Bn n₀ : Nat) (bd : Value) (ps : List PPart) (vs : List Value) (M : Nat → Prop) (w0 w : World) (hw0 : Rnd M w0 w) (hbox : w.cell? ⟨Bn, 3, none⟩ = some bd) (hparts : PartsAt 76 164 base w0 bd ps vs) (hlow : ∀ g, bd.ownBlock = some g → g < n₀)
    (hM : ∀ k, M k → n₀ ≤ k ∧ k ≠ Bn) (hl : ps.length ≤ 1000000) (hkd : ∀ p ∈ ps, p.kind ≤ 1000) :
    Hands Fence.wide n Tryz.prog 96 #[.pointer (some ⟨Bn, 0, none⟩)] (fun x : BX => #[.int .i64 (x.kind : Nat), x.atomV]) M (fun ys => ys = bodyX ps vs) (fun pre => pre <+: bodyX ps vs) w :=
  body_hands0 n base Bn bd ps vs M w0 w hw0 hbox hparts (fun g hg hm => by have := hlow g hg; have := (hM g hm).1; omega) (fun k hm => (hM k hm).2) hl hkd
end Go.Proofs.YtgllfcoafgphbaaGreatDoor

/-
  The program's walk.Atoms, walked.
-/
namespace Go.Proofs.YtgllfcoafgphbaaGreatDoor
open Go.ChangeShapes Go.WideShapes Go.ChangeAt Go.RowKit Go.Hands
set_option linter.unusedVariables false
attribute [local go_sem] Oper.semAt_some
/-- a rule in a box -/
structure RuleBox (w : World) (B : Nat) (name : List UInt8) (ha : Option Addr) (hn hc place : Nat) (bd : Value) : Prop where
  c0 : w.cell? ⟨B, 0, none⟩ = some (.string (str name))
  c1 : w.cell? ⟨B, 1, none⟩ = some (.slice ha hn hc)
  c2 : w.cell? ⟨B, 2, none⟩ = some (.int .i64 (place : Nat))
  c3 : w.cell? ⟨B, 3, none⟩ = some bd
theorem RuleBox.rnd {M : Nat → Prop} {w w' : World} {B : Nat} {name : List UInt8} {ha : Option Addr} {hn hc place : Nat} {bd : Value} (h : RuleBox w B name ha hn hc place bd) (hr : Rnd M w w') (hm : ¬ M B) : RuleBox w' B name ha hn hc place bd :=
  ⟨hr.cell h.c0 hm, hr.cell h.c1 hm, hr.cell h.c2 hm, hr.cell h.c3 hm⟩
set_option maxRecDepth 100000 in
set_option maxHeartbeats 1000000 in
theorem atoms_any (name : ByteArray) (ha : Option Addr) (hn hc : Nat) (place : Int) (ba : Option Addr) (bn bc : Nat) (w : World) :
    Calls Tryz.prog 47 #[.agg #[.string name, .slice ha hn hc, .int .i64 place, .slice ba bn bc]] w fun e w' => e = .returned (.func (.func 79) #[] #[.pointer (some ⟨w.heap.size, 0, none⟩)]) ∧ w' = w.alloc (.cells #[.string name, .slice ha hn hc, .int .i64 place, .slice ba bn bc] 112) := by
  go_enter Tryz.func47, Tryz.ntmps47
  go_wp2
  go_ret
  exact ⟨rfl, rfl⟩
theorem RoundIn.wideDepth {m m' l' : Nat} {P : Program} {l : Nat} {f : FuncId} {tmps : Array Value} {assign body : Code} {w : World} {R : Ending → World → Prop}
    (h : RoundIn Fence.wide m P l f tmps assign body w R) : RoundIn (Fence.wide.inRound l') m' P l f tmps assign body w R := ⟨h.1, fun c cs _ => h.2 c cs (fun d h => by cases h)⟩
def headX (name : List UInt8) (ha : Option Addr) (hn hc place : Nat) (hts : List PTerm) : BX := ⟨0, name, hn, ha, hc, place, hts⟩
set_option maxRecDepth 100000 in
set_option maxHeartbeats 4000000 in
theorem atoms_hands (n base Bn n₀ : Nat) (name : List UInt8) (ha : Option Addr) (hn hc place : Nat) (hts : List PTerm) (bd : Value) (ps : List PPart) (vs : List Value) (M : Nat → Prop) (w0 w : World) (hw0 : Rnd M w0 w) (hbox : RuleBox w Bn name ha hn hc place bd) (hparts : PartsAt 76 164 base w0 bd ps vs) (hlow : ∀ g, bd.ownBlock = some g → g < n₀)
    (hM : ∀ k, M k → n₀ ≤ k ∧ k ≠ Bn ∧ k < w.heap.size) (hl : ps.length ≤ 1000000) (hkd : ∀ p ∈ ps, p.kind ≤ 1000) (hn1 : 9 ≤ n) :
    Hands Fence.wide n Tryz.prog 79 #[.pointer (some ⟨Bn, 0, none⟩)] (fun x : BX => #[x.atomV]) M (fun ys => ys = headX name ha hn hc place hts :: bodyX ps vs) (fun pre => pre <+: headX name ha hn hc place hts :: bodyX ps vs) w := by
  intro l Mx J Jx W hW hMx hJ hJx hY h0
  have HMX := hide hMx
  have hBW := hbox.rnd hW (fun hm => (hM _ hm).2.1 rfl)
  have HJ : Hid (Low W.heap.size J) := hJ
  have HJX : Hid (Low W.heap.size Jx) := hJx
  have HY := hide hY
  obtain ⟨q0, q1, q2, q3⟩ := hBW
  have hbn : Bn < W.heap.size := World.block_lt_of_cell? W ⟨Bn, 0, none⟩ q0
  have hbd := own_slice hparts.own
  obtain ⟨bda, HBA⟩ : ∃ a, Hid (a = sliceA bd) := ⟨_, rfl⟩
  obtain ⟨bdc, HBC⟩ : ∃ c, Hid (c = sliceC bd) := ⟨_, rfl⟩
  rw [← HBA.out, ← HBC.out] at hbd
  rw [hbd] at q3
  have H0 := hide h0
  clear hJ hJx hY h0
  have HHX : Hid (headX name ha hn hc place hts = ⟨0, name, hn, ha, hc, place, hts⟩) := rfl
  have HMM : Hid (∀ k, M k → n₀ ≤ k ∧ k ≠ Bn ∧ k < w.heap.size) := hM
  have HWW := hide hW
  have HPS : Hid (PartsAt 76 164 base w0 bd ps vs) := hparts
  have HW0 := hide hw0
  have HLO := hide hlow
  have HKD := hide hkd
  obtain ⟨W2, HW2⟩ : ∃ W2, Hid (W2 = W.alloc (.cells #[.func (.yield l) #[] #[]] 117)) := ⟨_, rfl⟩
  have HB2 : Hid (Below W.heap.size W W2) := by rw [HW2.out]; exact (Below.refl _ _).alloc (Nat.le_refl _) _
  have HR2 : Hid (Rnd M W W2) := by rw [HW2.out]; exact (Rnd.refl _ _).alloc _
  have y2 : W2.cell? ⟨W.heap.size, 0, none⟩ = some (.func (.yield l) #[] #[]) := by rw [HW2.out, World.cell?_alloc_at _ _ _ _ rfl]; rfl
  obtain ⟨fn, tmps, assign, body, hy, hR⟩ := HY.out [] (headX name ha hn hc place hts) W2 (HJ.out _ _ _ H0.out HB2.out) HR2.out ⟨bodyX ps vs, rfl⟩
  dsimp only [BX.atomV, headX] at hy
  have HRR := hide hR
  have hW2 : W.alloc (.cells #[.func (.yield l) #[] #[]] 117) = W2 := HW2.out.symm
  replace q0 := HR2.out.cell q0 (fun hm => (HMM.out _ hm).2.1 rfl)
  replace q1 := HR2.out.cell q1 (fun hm => (HMM.out _ hm).2.1 rfl)
  replace q2 := HR2.out.cell q2 (fun hm => (HMM.out _ hm).2.1 rfl)
  replace q3 := HR2.out.cell q3 (fun hm => (HMM.out _ hm).2.1 rfl)
  clear hR hM hW hw0 hparts hlow hkd hbox
  refine callsIn_of_wp_marks Tryz.func79 rfl trivial ?_ rfl
  simp only [Tryz.ntmps79, List.size_toArray, List.length_cons, List.length_nil, Nat.reduceAdd, Nat.reduceSub, Array.replicate_succ, Array.replicate_zero, List.push_toArray, List.append_toArray, List.nil_append, List.cons_append]
  gi_wp2
  refine ⟨fun h => (by cases h), ?_⟩
  refine HRR.out.mono ?_
  rintro e W3 (⟨rfl, hJ3, hr3⟩ | ⟨rfl, hJx3, -⟩)
  · have HJ3 := hide hJ3
    have HR3 := hide hr3
    clear hJ3 hr3
    have z0 := HR3.out.cell q0 (fun hm => (HMM.out _ hm).2.1 rfl)
    have z1 := HR3.out.cell q1 (fun hm => (HMM.out _ hm).2.1 rfl)
    have z2 := HR3.out.cell q2 (fun hm => (HMM.out _ hm).2.1 rfl)
    have z3 := HR3.out.cell q3 (fun hm => (HMM.out _ hm).2.1 rfl)
    have y3 := HR3.out.cell y2 (fun hm => by have := (HMM.out _ hm).2.2; have := HWW.out.size; omega)
    clear hy hW2 q0 q1 q2 q3
    gi_wp2_with fail
    refine ⟨trivial, fun h => (by cases h), ?_⟩
    refine (callsIn_wide.2 (body_any (str name) ha hn hc (place : Nat) bda ps.length bdc W3)).mono ?_
    rintro e W4 ⟨rfl, hW4⟩
    have HW4 := hide hW4
    have HR34 : Hid (Rnd M W3 W4) := by rw [HW4.out]; exact (Rnd.refl _ _).alloc _
    have HB34 : Hid (Below W3.heap.size W3 W4) := by rw [HW4.out]; exact (Below.refl _ _).alloc (Nat.le_refl _) _
    have HR4 : Hid (Rnd M W W4) := (HR2.out.trans HR3.out).trans HR34.out
    have HSW : Hid (w.heap.size ≤ W.heap.size) := HWW.out.size
    have HS3 : Hid (W.heap.size < W3.heap.size) := by
      have h1 := HR3.out.size
      have h2 : W2.heap.size = W.heap.size + 1 := by rw [HW2.out]; simp
      show _ < _; omega
    have b4 : W4.cell? ⟨W3.heap.size, 3, none⟩ = some bd := by rw [HW4.out, World.cell?_alloc_at _ _ _ _ rfl, hbd]; rfl
    have y4 := HR34.out.cell y3 (fun hm => by have := (HMM.out _ hm).2.2; have := HSW.out; omega)
    clear hW4 z0 z1 z2 z3
    have HS4 : Hid (W3.heap.size < W4.heap.size) := by rw [HW4.out]; simp [Hid]
    have HJ4 : Hid (J [headX name ha hn hc place hts] W4) := HJ.out _ _ _ HJ3.out (HB34.out.mono (by have := HS3.out; omega))
    gi_wp2
    refine range_hands rfl (by omega) (gf := 96) (lb := #[.pointer (some ⟨W3.heap.size, 0, none⟩)]) rfl trivial (enters_of Tryz.func96 (by kernel_rfl) rfl)
      (body_hands (n - 1) base W3.heap.size n₀ bd ps vs M w0 W4 (HW0.out.trans (HWW.out.trans HR4.out)) b4 HPS.out HLO.out (fun k hm => ⟨(HMM.out k hm).1, by have := (HMM.out k hm).2.2; have := HSW.out; have := HS3.out; omega⟩) hl HKD.out)
      (Rnd.refl _ _) (fun k hm => by have := (HMM.out k hm).2.2; have := HSW.out; have := HS3.out; have := HS4.out; omega) Mx (fun k hm => by have := HMX.out k hm; have := HS3.out; have := HS4.out; omega) (fun _ => rfl)
      (fun pre W' => J (headX name ha hn hc place hts :: pre) W' ∧ Rnd M W W' ∧ W'.cell? ⟨W.heap.size, 0, none⟩ = some (.func (.yield l) #[] #[]))
      (fun c pre W' => c = .ret ∧ Jx (headX name ha hn hc place hts :: pre) W')
      (fun s A C h hb => ⟨HJ.out _ _ _ h.1 (hb.mono (by have := HS3.out; have := HS4.out; omega)), low_rnd (β := Unit) (by have := HS3.out; have := HS4.out; omega) () A C h.2.1 hb, (hb.cell (p := ⟨W.heap.size, 0, none⟩) (by have := HS3.out; have := HS4.out; show W.heap.size < _; omega)).trans h.2.2⟩)
      (fun c s A C h hb => ⟨h.1, HJX.out _ _ _ h.2 (hb.mono (by have := HS3.out; have := HS4.out; omega))⟩)
      ⟨HJ4.out, HR4.out, y4⟩
      (fun x a' W' => ∃ Bx, W'.cell? ⟨Bx, 0, none⟩ = some (.string (str x.name)) ∧ W'.cell? ⟨Bx, 1, none⟩ = some (.slice x.ua x.n x.uc) ∧ W'.cell? ⟨Bx, 2, none⟩ = some (.int .i64 (x.place : Nat)) ∧ a' = { tmps := #[.func (.yield l) #[] #[], .pointer (some ⟨Bn, 0, none⟩), .pointer (some ⟨W.heap.size, 0, none⟩), undef, .pointer (some ⟨Bx, 0, none⟩), .func (.yield l) #[] #[], .pointer (some ⟨Bn, 0, none⟩), .agg #[.string (str name), .slice ha hn hc, .int .i64 (place : Nat)], .bool true, .bool false, .agg #[.string (str name), .slice ha hn hc, .int .i64 (place : Nat), .slice bda ps.length bdc], .func (.func 96) #[] #[.pointer (some ⟨W3.heap.size, 0, none⟩)], .int .i64 (x.kind : Nat), x.atomV, undef, undef, undef, undef], defers := [] })
      ?hAx ?assign ?body ?done ?stop
    case hAx =>
      rintro x a' W' l' r o hl' ⟨Bx, h0, h1, h2, rfl⟩
      exact ⟨Bx, cell_put_loop hl' h0, cell_put_loop hl' h1, cell_put_loop hl' h2, rfl⟩
    case assign =>
      rintro l' pre ⟨xk, xn, xl, xa, xc, xp, xts⟩ W' K hsz hi hK
      have HK := hide hK
      clear hK hi
      dsimp only [BX.atomV]
      gi_wp2
      refine HK.out _ _ ((Rnd.refl _ _).alloc _) ⟨W'.heap.size, ?_, ?_, ?_, rfl⟩ <;> (rw [World.cell?_alloc_at _ _ _ _ rfl]; rfl)
    case body =>
      rintro l' pre x a' W' hsz ⟨hj, hr, hy'⟩ ⟨Bx, h0, h1, h2, rfl⟩ hlen
      obtain ⟨fn', tmps', assign', body', hyy, hRR⟩ := HY.out (headX name ha hn hc place hts :: pre) x W' hj hr (List.cons_prefix_cons.2 ⟨rfl, hlen⟩)
      have HR5 := hide hRR
      have HRW := hide hr
      clear hRR hr
      dsimp only [BX.atomV] at hyy
      gi_wp2
      refine ⟨fun h => (by cases h), ?_⟩
      refine RoundIn.mono (RoundIn.wideDepth HR5.out) ?_
      rintro e W5 (⟨rfl, hJ5, hr5⟩ | ⟨rfl, hJx5, hr5⟩)
      · have HJ5 := hide hJ5
        have HR6 := hide hr5
        have hy5 := hr5.cell hy' (fun hm => by have := (HMM.out _ hm).2.2; have := HSW.out; omega)
        clear hJ5 hr5
        gi_wp2
        exact ⟨HR6.out, by simpa using HJ5.out, HRW.out.trans HR6.out, hy5⟩
      · have HJ5 := hide hJx5
        have HR6 := hide hr5
        clear hJx5 hr5
        gi_wp2
        exact ⟨HR6.out, rfl, by simpa using HJ5.out⟩
    case done =>
      rintro D xs W' hD rfl ⟨hj, hr, hc⟩ hd
      gi_wp2
      refine ⟨by simp, .inl ⟨_, _, rfl, run_takeDeferred hd, ?_⟩⟩
      have hDW : W.heap.size ≤ D := by have := HS3.out; have := HS4.out; omega
      exact ⟨_, results_none rfl _ _ _, ⟨_, rfl⟩, .inl ⟨_, rfl, HJ.out _ _ _ hj (below_put hDW), hr.put (.inl hDW)⟩⟩
    case stop =>
      rintro D c pre W' hD hpre ⟨rfl, hj⟩ hd
      gi_wp2
      refine ⟨by simp, .inl ⟨_, _, rfl, run_takeDeferred hd, ?_⟩⟩
      have hDW : W.heap.size ≤ D := by have := HS3.out; have := HS4.out; omega
      exact ⟨_, results_none rfl _ _ _, ⟨_, rfl⟩, .inr ⟨_, List.cons_prefix_cons.2 ⟨rfl, hpre⟩, HJX.out _ _ _ hj (below_put hDW)⟩⟩
  · have HX3 : Hid (∃ pre, pre <+: headX name ha hn hc place hts :: bodyX ps vs ∧ Jx pre W3) := ⟨[headX name ha hn hc place hts], ⟨bodyX ps vs, rfl⟩, by simpa using hJx3⟩
    clear hJx3
    gi_wp2
    exact ⟨_, results_none rfl _ _ _, ⟨_, rfl⟩, .inr HX3.out⟩
end Go.Proofs.YtgllfcoafgphbaaGreatDoor

/-
  Rows that are written over: what stays.
-/
namespace Go.Proofs.YtgllfcoafgphbaaGreatDoor
open Go.ChangeShapes Go.WideShapes Go.ChangeAt Go.RowKit
set_option linter.unusedVariables false
/-- what lies below and what lies above stays -/
structure Mid (base top : Nat) (w w' : World) : Prop where
  os : w'.os = w.os
  tape : w'.tape = w.tape
  output : w'.output = w.output
  size : w'.heap.size = w.heap.size
  block : ∀ k, k < base ∨ top ≤ k → w'.heap[k]? = w.heap[k]?
theorem Mid.refl (base top : Nat) (w : World) : Mid base top w w := ⟨rfl, rfl, rfl, rfl, fun _ _ => rfl⟩
theorem set_size (w : World) (a : Addr) (u : Value) : (w.setCell a u).heap.size = w.heap.size := by simp [World.setCell]
theorem Mid.set {base top : Nat} {w w' : World} (h : Mid base top w w') {b : Nat} (hb : base ≤ b) (ht : b < top) (j : Nat) (u : Value) : Mid base top w (w'.setCell ⟨b, j, none⟩ u) :=
  ⟨h.os, h.tape, h.output, by rw [set_size]; exact h.size, fun k hk => by rw [Below.heap_setCell _ _ _ _ (by show k ≠ b; omega)]; exact h.block k hk⟩
theorem Mid.below {base top : Nat} {W w w' : World} (h : Mid base top w w') (hb : Below base W w) : Below base W w' :=
  ⟨h.os.trans hb.os, h.tape.trans hb.tape, h.output.trans hb.output, by rw [h.size]; exact hb.size, fun k hk => (h.block k (Or.inl hk)).trans (hb.block k hk)⟩
theorem own_mid {base top : Nat} {w w' : World} {e : TypeId} {s n : Nat} {v : Value} {xs : List Value} (h : w.ownsRow top e s v n xs) (hm : Mid base top w w') : w'.ownsRow top e s v n xs := by
  refine ⟨h.1, ?_⟩
  rcases h.2 with h2 | ⟨g, cap, cur, hv, hbg, hg, rest⟩
  · exact Or.inl h2
  · exact Or.inr ⟨g, cap, cur, hv, hbg, by rw [hm.block g (Or.inr hbg)]; exact hg, rest⟩
theorem PartsAt.mid {tT tP : TypeId} {base top : Nat} {w w' : World} {v : Value} {ps : List PPart} {vs : List Value} (h : PartsAt tT tP top w v ps vs) (hm : Mid base top w w') : PartsAt tT tP top w' v ps vs :=
  ⟨own_mid h.own hm, h.len, fun i p u hp hu => own_mid (h.args i p u hp hu) hm⟩
theorem RulesAt.mid {tT tP tR : TypeId} {base top : Nat} {w w' : World} {v : Value} {rs : List PRule} {hs bs : List Value} (h : RulesAt tT tP tR top w v rs hs bs) (hm : Mid base top w w') : RulesAt tT tP tR top w' v rs hs bs :=
  ⟨own_mid h.own hm, h.lh, h.lb, fun i p u hp hu => own_mid (h.heads i p u hp hu) hm, fun i p u hp hu => by obtain ⟨vs, hv⟩ := h.bodies i p u hp hu; exact ⟨vs, hv.mid hm⟩⟩
/-- a row of elements of z cells, elsewhere, that may be written -/
def SoftRow (g base top z : Nat) (w : World) (v : Value) : Prop :=
  ∃ (xa : Option Addr) (xn xc : Nat), v = .slice xa xn xc ∧ xn ≤ 1073741824 ∧ (xn = 0 ∨ ∃ h, xa = some ⟨h, 0, none⟩ ∧ base ≤ h ∧ h < top ∧ h ≠ g ∧ (∀ m, m < xn * z → ∃ x, w.cell? ⟨h, m, none⟩ = some x) ∧ ∀ m, w.frozen? ⟨h, m, none⟩ = false)
theorem SoftRow.nil (g base top z : Nat) (w : World) : SoftRow g base top z w (.slice none 0 0) := ⟨none, 0, 0, rfl, by omega, Or.inl rfl⟩
theorem some_set {w : World} {p a : Addr} {u : Value} (h : ∃ x, w.cell? p = some x) : ∃ x, (w.setCell a u).cell? p = some x := by
  obtain ⟨x, hx⟩ := h
  by_cases e : p = a
  · subst e; exact ⟨u, World.cell?_setCell_same _ _ _ hx⟩
  · exact ⟨x, by rw [World.cell?_setCell_other _ _ _ _ (fun h => e h.symm)]; exact hx⟩
theorem SoftRow.set {g base top z : Nat} {w : World} {v : Value} (h : SoftRow g base top z w v) (a : Addr) (u : Value) : SoftRow g base top z (w.setCell a u) v := by
  obtain ⟨xa, xn, xc, rfl, hn, h0 | ⟨k, rfl, h1, h2, h3, h4, h5⟩⟩ := h
  · exact ⟨xa, xn, xc, rfl, hn, Or.inl h0⟩
  · exact ⟨_, xn, xc, rfl, hn, Or.inr ⟨k, rfl, h1, h2, h3, fun m hm => some_set (h4 m hm), fun m => by rw [World.frozen?_setCell]; exact h5 m⟩⟩
/-- rows within rows that may be written: n elements of s cells at g, some of whose fields are rows -/
structure Spoilt (w1 : World) (base top g n s : Nat) (cols : List (Nat × Nat)) (w : World) : Prop where
  lo : base ≤ g
  hi : g < top
  mid : Mid base top w1 w
  cells : ∀ i, i < n * s → ∃ x, w.cell? ⟨g, i, none⟩ = some x
  thaw : ∀ i, w.frozen? ⟨g, i, none⟩ = false
  rows : ∀ i, i < n → ∀ oz ∈ cols, ∃ v, w.cell? ⟨g, i * s + oz.1, none⟩ = some v ∧ SoftRow g base top oz.2 w v
theorem Spoilt.set {w1 : World} {base top g n s : Nat} {cols : List (Nat × Nat)} {w : World} (h : Spoilt w1 base top g n s cols w) {b : Nat} (hb : base ≤ b) (ht : b < top) (j : Nat) (u : Value) (hc : b = g → (∃ oz ∈ cols, ∃ i, j = i * s + oz.1) → u = .slice none 0 0) : Spoilt w1 base top g n s cols (w.setCell ⟨b, j, none⟩ u) := by
  refine ⟨h.lo, h.hi, h.mid.set hb ht j u, fun i hi => some_set (h.cells i hi), fun i => by rw [World.frozen?_setCell]; exact h.thaw i, fun i hi oz ho => ?_⟩
  obtain ⟨v, hv, hs⟩ := h.rows i hi oz ho
  by_cases e : (⟨b, j, none⟩ : Addr) = ⟨g, i * s + oz.1, none⟩
  · cases e
    rw [hc rfl ⟨oz, ho, i, rfl⟩]
    exact ⟨_, World.cell?_setCell_same _ _ _ hv, SoftRow.nil _ _ _ _ _⟩
  · exact ⟨v, by rw [World.cell?_setCell_other _ _ _ _ e]; exact hv, hs.set _ _⟩
/-- another block's cells -/
theorem Spoilt.sets {w1 : World} {base top g n s : Nat} {cols : List (Nat × Nat)} {b : Nat} (hb : base ≤ b) (ht : b < top) (hne : b ≠ g) (us : List Value) : ∀ (j : Nat) (w : World), Spoilt w1 base top g n s cols w → Spoilt w1 base top g n s cols (sets w b j us) := by
  induction us with
  | nil => intro j w h; exact h
  | cons u us ih => intro j w h; exact ih (j + 1) _ (h.set hb ht j u (fun e => absurd e hne))
/-- an element of its own -/
theorem Spoilt.own {w1 : World} {base top g n s : Nat} {cols : List (Nat × Nat)} (us : List Value) : ∀ (j : Nat) (w : World), Spoilt w1 base top g n s cols w → (∀ (m : Nat) (u : Value), us[m]? = some u → (∃ oz ∈ cols, ∃ i, j + m = i * s + oz.1) → u = .slice none 0 0) → Spoilt w1 base top g n s cols (Go.Proofs.YtgllfcoafgphbaaGreatDoor.sets w g j us) := by
  induction us with
  | nil => intro j w h _; exact h
  | cons u us ih =>
    intro j w h hc
    refine ih (j + 1) _ (h.set h.lo h.hi j u (fun _ he => hc 0 u rfl he)) (fun m v hv he => hc (m + 1) v (by simpa using hv) ?_)
    rw [show j + (m + 1) = j + 1 + m from by omega]; exact he
theorem soft_terms {w : World} {base top g : Nat} {e e2 : TypeId} {v v2 : Value} {l : List PTerm} {s2 n2 : Nat} {ys : List Value} (h : w.ownsRow base e 3 v l.length (termsV l)) (h2 : w.ownsRow base e2 s2 v2 n2 ys) (hne : e ≠ e2) (hv2 : v2.ownBlock = some g) (hl : l.length ≤ 1073741824) (ht : w.heap.size ≤ top) : SoftRow g base top 3 w v := by
  have hk := kinds_ne h h2 hne
  rcases h.2 with ⟨rfl, h0⟩ | ⟨k, cap, cur, rfl, hb, hg, hn, hc, hs, htk⟩
  · exact SoftRow.nil _ _ _ _ _
  · refine ⟨_, _, cap, rfl, hl, Or.inr ⟨k, rfl, hb, ?_, fun e => hk k rfl (by rw [hv2, e]), fun m hm => ?_, fun m => own_soft h m⟩⟩
    · have := (Array.getElem?_eq_some_iff.1 hg).1; omega
    · have hm2 : m < (termsV l).length := by rw [termsV_len]; exact hm
      have := h.cells rfl m _ (List.getElem?_eq_getElem hm2)
      rw [add_zero] at this
      exact ⟨_, this⟩
theorem partsV_len : ∀ (ps : List PPart) (vs : List Value), vs.length = ps.length → (partsV ps vs).length = ps.length * 10 := by
  intro ps
  induction ps with
  | nil => intro vs h; cases vs <;> simp [partsV] at *
  | cons p ps ih => intro vs h; cases vs with
    | nil => simp at h
    | cons v vs => simp only [partsV, List.length_append, List.length_cons]; rw [ih vs (by simpa using h)]; simp [partV]; omega
theorem soft_parts {w : World} {base top g : Nat} {tT tP e2 : TypeId} {v v2 : Value} {ps : List PPart} {vs : List Value} {s2 n2 : Nat} {ys : List Value} (h : PartsAt tT tP base w v ps vs) (h2 : w.ownsRow base e2 s2 v2 n2 ys) (hne : tP ≠ e2) (hv2 : v2.ownBlock = some g) (hl : ps.length ≤ 1073741824) (ht : w.heap.size ≤ top) : SoftRow g base top 10 w v := by
  have hk := kinds_ne h.own h2 hne
  rcases h.own.2 with ⟨rfl, h0⟩ | ⟨k, cap, cur, rfl, hb, hg, hn, hc, hs, htk⟩
  · exact SoftRow.nil _ _ _ _ _
  · refine ⟨_, _, cap, rfl, hl, Or.inr ⟨k, rfl, hb, ?_, fun e => hk k rfl (by rw [hv2, e]), fun m hm => ?_, fun m => own_soft h.own m⟩⟩
    · have := (Array.getElem?_eq_some_iff.1 hg).1; omega
    · have hm2 : m < (partsV ps vs).length := by rw [partsV_len ps vs h.len]; exact hm
      have := h.own.cells rfl m _ (List.getElem?_eq_getElem hm2)
      rw [add_zero] at this
      exact ⟨_, this⟩
/-- parts may be spoilt -/
theorem spoilt_parts {w1 w : World} {base top g cap : Nat} {tT tP : TypeId} {ps : List PPart} {vs : List Value} (h : PartsAt tT tP base w1 (.slice (some ⟨g, 0, none⟩) ps.length cap) ps vs) (hne : tT ≠ tP) (hl : ∀ p ∈ ps, p.atom.args.length ≤ 1073741824) (ht : w1.heap.size = top) (hg : w1.grownBy w none) : Spoilt w base top g ps.length 10 [(2, 3)] w := by
  have h' := h.kept hg (fun g e => by cases e)
  have hb := own_blk h.own rfl
  have hlt : g < w1.heap.size := hb.2
  refine ⟨hb.1, by omega, Mid.refl _ _ _, fun i hi => ?_, fun i => own_soft h'.own i, fun i hi oz ho => ?_⟩
  · have hm2 : i < (partsV ps vs).length := by rw [partsV_len ps vs h.len]; exact hi
    have := h'.own.cells rfl i _ (List.getElem?_eq_getElem hm2)
    rw [add_zero] at this
    exact ⟨_, this⟩
  · simp at ho; subst ho
    have hi2 : i < vs.length := by rw [h.len]; exact hi
    have hc := h'.own.cells rfl (i * 10 + 2) vs[i] (by rw [partsV_at ps vs i 2 ps[i] vs[i] (List.getElem?_eq_getElem hi) (List.getElem?_eq_getElem hi2) (by omega)]; rfl)
    rw [add_zero] at hc
    refine ⟨_, hc, ?_⟩
    have hr := soft_terms (top := top) (h.args i ps[i] vs[i] (List.getElem?_eq_getElem hi) (List.getElem?_eq_getElem hi2)) h.own hne rfl (hl _ (List.getElem_mem hi)) (by omega)
    obtain ⟨xa, xn, xc, he, hn, h0 | ⟨k, rfl, h1, h2, h3, h4, h5⟩⟩ := hr
    · exact ⟨xa, xn, xc, he, hn, Or.inl h0⟩
    · refine ⟨_, xn, xc, he, hn, Or.inr ⟨k, rfl, h1, h2, h3, fun m hm => ?_, fun m => ?_⟩⟩
      · obtain ⟨x, hx⟩ := h4 m hm; exact ⟨x, grown_cell hg hx⟩
      · rw [← h5 m]; exact World.frozen?_of_block (w := w1) (hg.block k (by omega) (by simp))
end Go.Proofs.YtgllfcoafgphbaaGreatDoor
