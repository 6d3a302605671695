import Derived.Test.YtoelacloghkooaaGreatDoorM17
import Derived.Test.YtoelacloghkooaaGreatDoorM20
import Derived.Test.YtoelacloghkooaaGreatDoorM21
import Derived.Deep.RegionHeld3
/-
  The program's printer: term, atom.
-/
namespace Go.Proofs.YtoelacloghkooaaGreatDoor
open Go.ChangeShapes Go.WideShapes Go.ChangeAt Go.RowKit
set_option linter.unusedVariables false
/-- the receiver of a method that writes -/
def mv (f : FuncId) (b : Nat) : Value := .func (.func f) #[.pointer (some ⟨b, 0, none⟩)] #[]
set_option maxRecDepth 100000 in
set_option maxHeartbeats 2000000 in
theorem wterm_raw (B b : Nat) (l : List UInt8) (v : Bool) (x : ByteArray) (p : Int) (w : World) (h : PB B b l w) (hx : x.size ≤ 1048576) (hl : l.length ≤ 1099511627776) (hBw : B ≤ w.heap.size) :
    Calls Tryz.prog 71 #[.pointer (some ⟨b, 0, none⟩), .agg #[.bool v, .string x, .int .i64 p]] w fun e w' => e = .returned (.tuple #[]) ∧ PB B b (l ++ (if v then x.data.toList else constF x.data.toList)) w' ∧ PF B w w' := by
  have HPB := hide h
  clear h
  cases v with
  | true =>
    go_enter Tryz.func71, Tryz.ntmps71
    go_wp2_with fail
    generalize hw1 : World.alloc _ _ = w1
    have HG1 : Hid (w.grownBy w1 none) := by rw [← hw1]; exact fr_alloc _ _ _
    have c1 : w1.cell? ⟨w.heap.size, 1, none⟩ = some (.string x) := by rw [← hw1]; simp
    have HK1 : Hid (Kind w1 w.heap.size 44) := by rw [← hw1]; exact ⟨_, _, heap_alloc_new w _⟩
    clear hw1
    have HWR : Hid (∀ wx : World, (∃ n, wx = w1.drewN n) → Calls Tryz.prog 40 #[.pointer (some ⟨b, 0, none⟩), .string x] wx fun e w' => e = .returned (.tuple #[.int .i64 x.size, .nilIface]) ∧ Hid (PB B b (l ++ x.data.toList) w') ∧ Hid (PF B w w') ∧ w'.cell? ⟨w.heap.size, 1, none⟩ = some (.string x)) := by
      rintro wx ⟨n, rfl⟩
      have hg : w.grownBy (w1.drewN n) none := fr_both HG1.out (fr_draws _ _ _)
      refine (pwrite_any B b l x _ (HPB.out.kept hg) (by omega) (Nat.le_trans hBw hg.size)).mono ?_
      rintro e w2 ⟨rfl, h2, hpf⟩
      exact ⟨rfl, h2, (PF.fresh hg hBw).trans hpf, (World.cell?_of_block (a := ⟨w.heap.size, 1, none⟩) (hpf.keep w.heap.size _ HK1.out (by decide) (by decide))).trans c1⟩
    go_region_held3 (fun w' => w'.cell? ⟨w.heap.size, 1, none⟩ = some (.string x)) (go_keep) (first | (go_at_call 40; refine (HWR.out _ ⟨_, rfl⟩).mono ?_; rintro e w2 ⟨rfl, H2, HP2, k0⟩))
    all_goals go_wp2
    all_goals refine bodyPost_ret (results_none rfl _ _ _) rfl ?_
    all_goals exact ⟨rfl, H2.out, HP2.out⟩
  | false =>
    have HLC := hide (constF_len x.data.toList)
    have hl0 : x.data.toList.length = x.size := by simp
    obtain ⟨X, HX⟩ : ∃ X, Hid (str (constF x.data.toList) = X) := ⟨_, (rfl : _ = _)⟩
    have hX : X.size ≤ 2097154 := by rw [← HX.out, str_size]; have := HLC.out; omega
    have HXD : Hid (X.data.toList = constF x.data.toList) := by show _ = _; rw [← HX.out, data_str]
    clear hl0
    go_enter Tryz.func71, Tryz.ntmps71
    go_wp2_with fail
    generalize hw1 : World.alloc _ _ = w1
    have HG1 : Hid (w.grownBy w1 none) := by rw [← hw1]; exact fr_alloc _ _ _
    have c1 : w1.cell? ⟨w.heap.size, 1, none⟩ = some (.string x) := by rw [← hw1]; simp
    have HK1 : Hid (Kind w1 w.heap.size 44) := by rw [← hw1]; exact ⟨_, _, heap_alloc_new w _⟩
    clear hw1
    have HCN : Hid (∀ wx : World, (∃ n, wx = w1.drewN n) → Calls Tryz.prog 14 #[.string x] wx fun e w' => e = .returned (.string X) ∧ Hid (w1.grownBy w' none) ∧ w'.cell? ⟨w.heap.size, 1, none⟩ = some (.string x)) := by
      rintro wx ⟨n, rfl⟩
      refine (pConstant_any x _ (by omega)).mono ?_
      rintro e w2 ⟨rfl, hg⟩
      rw [HX.out]
      have hg2 : w1.grownBy w2 none := fr_both (fr_draws _ n _) hg
      exact ⟨rfl, hg2, grown_cell hg2 c1⟩
    have HWR : Hid (∀ wx : World, w1.grownBy wx none → Calls Tryz.prog 40 #[.pointer (some ⟨b, 0, none⟩), .string X] wx fun e w' => e = .returned (.tuple #[.int .i64 X.size, .nilIface]) ∧ Hid (PB B b (l ++ constF x.data.toList) w') ∧ Hid (PF B w w') ∧ w'.cell? ⟨w.heap.size, 1, none⟩ = some (.string x)) := by
      intro wx hgx
      have hg : w.grownBy wx none := fr_both HG1.out hgx
      refine (pwrite_any B b l X _ (HPB.out.kept hg) (by omega) (Nat.le_trans hBw hg.size)).mono ?_
      rintro e w2 ⟨rfl, h2, hpf⟩
      rw [HXD.out] at h2
      exact ⟨rfl, h2, (PF.fresh hg hBw).trans hpf, (World.cell?_of_block (a := ⟨w.heap.size, 1, none⟩) (hpf.keep w.heap.size _ (HK1.out.grown hgx (by simp)) (by decide) (by decide))).trans (grown_cell hgx c1)⟩
    go_region_held3 (fun w' => w'.cell? ⟨w.heap.size, 1, none⟩ = some (.string x)) (go_keep) (first | (go_at_call 14; refine (HCN.out _ ⟨_, rfl⟩).mono ?_; rintro e w2 ⟨rfl, HG2, k1⟩) | (go_at_call 40; refine (HWR.out _ (by first | exact HG2.out | exact fr_both HG2.out (fr_draws _ _ _))).mono ?_; rintro e w3 ⟨rfl, H2, HP2, k0⟩))
    all_goals go_wp2
    all_goals go_end0
    all_goals exact ⟨rfl, H2.out, HP2.out⟩
theorem wterm_any (B b : Nat) (l : List UInt8) (t : PTerm) (w : World) (h : PB B b l w) (ht : WfT t) (hl : l.length ≤ 1099511627776) (hBw : B ≤ w.heap.size) :
    Calls Tryz.prog 71 #[.pointer (some ⟨b, 0, none⟩), .agg #[.bool t.isVar, .string (str t.text), .int .i64 (t.place : Nat)]] w fun e w' => e = .returned (.tuple #[]) ∧ PB B b (l ++ termTextF t) w' ∧ PF B w w' := by
  have hs : t.text.length ≤ 1048576 := by
    cases hv : t.isVar with
    | true => have := var_len (ht.1 hv).1; omega
    | false => have := ht.2 hv; omega
  have := wterm_raw B b l t.isVar (str t.text) (t.place : Nat) w h (by rw [str_size]; exact hs) hl hBw
  rw [data_str] at this
  exact this
end Go.Proofs.YtoelacloghkooaaGreatDoor

/-
  The program's printer: terms with commas between.
-/
namespace Go.Proofs.YtoelacloghkooaaGreatDoor
open Go.ChangeShapes Go.WideShapes Go.ChangeAt Go.RowKit
set_option linter.unusedVariables false
theorem comma_take_len {α : Type} (f : α → List UInt8) (N : Nat) (l : List α) (k : Nat) (h : ∀ x ∈ l, (f x).length ≤ N) : (commaF f (l.take k)).length ≤ l.length * (N + 2) := by
  have h1 := comma_len f N (l.take k) (fun x hx => h x (List.mem_of_mem_take hx))
  have h2 : (l.take k).length ≤ l.length := by rw [List.length_take]; omega
  exact Nat.le_trans h1 (Nat.mul_le_mul_right _ h2)
set_option maxRecDepth 100000 in
set_option maxHeartbeats 4000000 in
theorem wlistT_any (B b : Nat) (l : List UInt8) (ts : List PTerm) (v : Value) (BT : Nat) (w : World) (h : PB B b l w) (ho : w.ownsRow BT 44 3 v ts.length (termsV ts)) (hwf : ∀ t ∈ ts, WfT t) (h8 : ts.length ≤ 8) (hl : l.length ≤ 549755813888) (hBw : B ≤ w.heap.size) :
    Calls Tryz.prog 70 #[.pointer (some ⟨b, 0, none⟩), v, .func (.func 71) #[.pointer (some ⟨b, 0, none⟩)] #[]] w fun e w' => e = .returned (.tuple #[]) ∧ PB B b (l ++ commaF termTextF ts) w' ∧ PF B w w' := by
  have hE : ∀ args w, (callFunc 71 args).run Tryz.prog w = .ok (.enter 71 args) w := enters_of Tryz.func71 (by kernel_rfl) rfl
  have HPB := hide h
  have HO := hide ho
  have HWF := hide hwf
  obtain ⟨va, vc, hv⟩ := own_form ho
  subst hv
  have HLN : Hid (∀ k, (l ++ commaF termTextF (ts.take k)).length ≤ 549755817120) := fun k => by
    rw [List.length_append]
    have := comma_take_len termTextF 402 ts k (fun x hx => termText_len (HWF.out x hx))
    omega
  have HTK : Hid (∀ k (hk : k < ts.length), commaF termTextF (ts.take (k + 1)) = if k = 0 then termTextF ts[k] else commaF termTextF (ts.take k) ++ [44, 32] ++ termTextF ts[k]) := fun k hk => commaF_take termTextF ts k hk
  clear h ho hwf
  obtain ⟨N, HN⟩ : ∃ N, Hid (ts.length = N) := ⟨_, (rfl : _ = _)⟩
  rw [HN.out] at h8 ⊢
  go_enter Tryz.func70, Tryz.ntmps70
  go_wp2_with fail
  go_loopw [6, 7, 10] (fun iv tv xv wr => ∃ k : Nat, k ≤ N ∧ xv = .int .i64 k ∧ Hid (PB B b (l ++ commaF termTextF (ts.take k)) wr) ∧ Hid (PF B w wr)) (fun _ _ xv _ => N - (intOf xv).toNat)
  case atStart => exact ⟨0, by omega, rfl, hide (by have h := HPB.out; simpa [commaF] using h), PF.refl _ _⟩
  case round =>
    obtain ⟨k, hk, rfl, HP, HF⟩ := hrel
    by_cases hlt : k < N
    · have hkt : k < ts.length := by have := HN.out; omega
      have HWK := hide (HWF.out ts[k] (List.getElem_mem hkt))
      have hor := PF.own HO.out HF.out (by decide) (by decide)
      rcases own_terms hor with ⟨h0, h1⟩ | ⟨ga, ca, hva, -, hga, hca⟩
      · rw [h1] at hkt; simp at hkt
      cases hva
      obtain ⟨a0, a1, a2⟩ := hca k hkt
      have HST := hide (HTK.out k hkt)
      have HL0 := hide (HLN.out k)
      have HL1 := hide (HLN.out (k + 1))
      clear hca hor
      generalize ts[k] = t at *
      by_cases h0 : k = 0
      · have e0 : decide (0 < k) = false := by simp [h0]
        rw [if_pos h0] at HST
        have HZ : Hid (l ++ commaF termTextF (ts.take k) = l) := by show _ = _; rw [h0]; simp [commaF]
        rw [HZ.out] at HP HL0
        have hL0 := HL0.out
        clear h0 HL0
        go_wp2_with fail
        generalize hw1 : World.alloc _ _ = w1
        have HG1 : Hid (wr.grownBy w1 none) := by rw [← hw1]; exact fr_alloc _ _ _
        clear hw1
        have hBr : B ≤ wr.heap.size := Nat.le_trans hBw HF.out.below.size
        refine (wterm_any B b l t w1 (HP.out.kept HG1.out) HWK.out (by omega) (Nat.le_trans hBr HG1.out.size)).mono ?_
        rintro e w2 ⟨rfl, h2, hp2⟩
        have H2 : Hid (PB B b (l ++ commaF termTextF (ts.take (k + 1))) w2) := by rw [HST.out]; exact h2
        have HP2 := hide (HF.out.trans ((PF.fresh HG1.out hBr).trans hp2))
        clear h2 hp2
        go_wp2
        go_roundw
        case rel => exact ⟨k + 1, by omega, by go_num, H2, HP2⟩
        case measure => simp [intOf]; omega
      · have hpos : 0 < k := by omega
        rw [if_neg h0] at HST
        clear h0
        go_wp2_with fail
        generalize hw1 : World.alloc _ _ = w1
        have HG1 : Hid (wr.grownBy w1 none) := by rw [← hw1]; exact fr_alloc _ _ _
        have HK1 : Hid (Kind w1 wr.heap.size 44) := by rw [← hw1]; exact ⟨_, _, heap_alloc_new wr _⟩
        have HC1 : Hid (w1.cell? ⟨wr.heap.size, 0, none⟩ = some (.bool t.isVar) ∧ w1.cell? ⟨wr.heap.size, 1, none⟩ = some (.string (str t.text)) ∧ w1.cell? ⟨wr.heap.size, 2, none⟩ = some (.int .i64 (t.place : Nat))) := by rw [← hw1]; exact ⟨by simp, by simp, by simp⟩
        clear hw1
        have hBr : B ≤ wr.heap.size := Nat.le_trans hBw HF.out.below.size
        have hL0 := HL0.out
        obtain ⟨lk, HLK⟩ : ∃ lk, Hid (l ++ commaF termTextF (ts.take k) = lk) := ⟨_, (rfl : _ = _)⟩
        rw [HLK.out] at HP hL0
        refine (pwrite_any B b lk (str [44, 32]) w1 (HP.out.kept HG1.out) (by rw [str_size]; simp; omega) (Nat.le_trans hBr HG1.out.size)).mono ?_
        rintro e w2 ⟨rfl, h2, hp2⟩
        rw [data_str] at h2
        have hkb := hp2.keep wr.heap.size _ HK1.out (by decide) (by decide)
        have d0 := (World.cell?_of_block (a := ⟨wr.heap.size, 0, none⟩) hkb).trans HC1.out.1
        have d1 := (World.cell?_of_block (a := ⟨wr.heap.size, 1, none⟩) hkb).trans HC1.out.2.1
        have d2 := (World.cell?_of_block (a := ⟨wr.heap.size, 2, none⟩) hkb).trans HC1.out.2.2
        have H2 := hide h2
        have HP2 := hide ((PF.fresh HG1.out hBr).trans hp2)
        have hB2 : B ≤ w2.heap.size := Nat.le_trans hBr HP2.out.below.size
        generalize wr.heap.size = W at *
        clear h2 hp2 hkb
        go_wp2_with fail
        refine (wterm_any B b (lk ++ [44, 32]) t w2 H2.out HWK.out (by simp; omega) hB2).mono ?_
        rintro e w3 ⟨rfl, h3, hp3⟩
        have H3 : Hid (PB B b (l ++ commaF termTextF (ts.take (k + 1))) w3) := by rw [HST.out, ← List.append_assoc, ← List.append_assoc, HLK.out]; exact h3
        have HP3 := hide (HF.out.trans (HP2.out.trans hp3))
        clear h3 hp3 d0 d1 d2
        go_wp2
        go_roundw
        case rel => exact ⟨k + 1, by omega, by go_num, H3, HP3⟩
        case measure => simp [intOf]; omega
    · have hkN : k = N := by omega
      have HE : Hid (ts.take k = ts) := by show _ = _; rw [List.take_of_length_le (by have := HN.out; omega)]
      go_wp2
      go_end0
      exact ⟨rfl, by have h := HP.out; rw [HE.out] at h; exact h, HF.out⟩
end Go.Proofs.YtoelacloghkooaaGreatDoor

/-
  The program's printer: an atom.
-/
namespace Go.Proofs.YtoelacloghkooaaGreatDoor
open Go.ChangeShapes Go.WideShapes Go.ChangeAt Go.RowKit
set_option linter.unusedVariables false
theorem PF.cell {B : Nat} {w w' : World} (h : PF B w w') {g j : Nat} {t : TypeId} {v : Value} (hk : Kind w g t) (h1 : t ≠ 53) (h2 : t ≠ 5) (hc : w.cell? ⟨g, j, none⟩ = some v) : w'.cell? ⟨g, j, none⟩ = some v := (World.cell?_of_block (a := ⟨g, j, none⟩) (h.keep g t hk h1 h2)).trans hc
theorem PF.draws {B : Nat} (w : World) (n : Nat) (hB : B ≤ w.heap.size) : PF B w (w.drewN n) := PF.fresh (fr_draws _ _ _) hB
theorem atomText_has (a : PAtom) (h : 0 < a.args.length) : atomTextF a = a.name ++ [40] ++ commaF termTextF a.args ++ [41] := by
  unfold atomTextF; rw [if_neg (by omega)]; simp
theorem atomText_bare (a : PAtom) (h : a.args.length = 0) : atomTextF a = a.name := by
  unfold atomTextF; rw [if_pos h, List.append_nil]
set_option maxRecDepth 100000 in
set_option maxHeartbeats 4000000 in
theorem watom_any (B b : Nat) (l : List UInt8) (a : PAtom) (v : Value) (BT : Nat) (w : World) (h : PB B b l w) (ho : w.ownsRow BT 44 3 v a.args.length (termsV a.args)) (hwf : WfA a) (hl : l.length ≤ 274877906944) (hBw : B ≤ w.heap.size) :
    Calls Tryz.prog 39 #[.pointer (some ⟨b, 0, none⟩), .agg #[.string (str a.name), v, .int .i64 (a.place : Nat)]] w fun e w' => e = .returned (.tuple #[]) ∧ PB B b (l ++ atomTextF a) w' ∧ PF B w w' := by
  have hmf : ∀ (fn : Fn) (first cap : Array Value) (w : World), (Instr.makeFunc fn first cap).run Tryz.prog w = .ok (.func fn first cap) w := fun _ _ _ _ => rfl
  have HPB := hide h
  have HO := hide ho
  have HWF := hide hwf
  have hnm := name_len hwf.1
  have h8 := hwf.2.1
  obtain ⟨va, vc, hv⟩ := own_form ho
  subst hv
  have HCL : Hid ((commaF termTextF a.args).length ≤ 3232) := hide (by have := comma_len termTextF 402 a.args (fun x hx => termText_len (HWF.out.2.2 x hx)); omega)
  have HTH := hide (atomText_has a)
  have HTB := hide (atomText_bare a)
  clear h ho hwf
  obtain ⟨N, HN⟩ : ∃ N, Hid (a.args.length = N) := ⟨_, (rfl : _ = _)⟩
  rw [HN.out] at h8 HTH HTB ⊢
  obtain ⟨nm, HNM⟩ : ∃ nm, Hid (str a.name = nm) := ⟨_, (rfl : _ = _)⟩
  have HND : Hid (nm.data.toList = a.name) := by show _ = _; rw [← HNM.out, data_str]
  have hns : nm.size ≤ 30 := by rw [← HNM.out, str_size]; exact hnm
  rw [HNM.out]
  generalize ((a.place : Nat) : Int) = pl
  go_enter Tryz.func39, Tryz.ntmps39
  go_wp2_with fail
  generalize hw1 : World.alloc _ _ = w1
  have HG1 : Hid (w.grownBy w1 none) := by rw [← hw1]; exact fr_alloc _ _ _
  have c0 : w1.cell? ⟨w.heap.size, 0, none⟩ = some (.string nm) := by rw [← hw1]; simp
  have HC1 : Hid (w1.cell? ⟨w.heap.size, 1, none⟩ = some (.slice va N vc)) := by show _ = _; rw [← hw1]; simp
  have HK1 : Hid (Kind w1 w.heap.size 42) := by rw [← hw1]; exact ⟨_, _, heap_alloc_new w _⟩
  clear hw1
  have hB1 : B ≤ w1.heap.size := Nat.le_trans hBw HG1.out.size
  have HWR : Hid (∀ wx : World, (∃ n, wx = w1.drewN n) → Calls Tryz.prog 40 #[.pointer (some ⟨b, 0, none⟩), .string nm] wx fun e w' => e = .returned (.tuple #[.int .i64 nm.size, .nilIface]) ∧ Hid (PB B b (l ++ a.name) w') ∧ Hid (PF B w1 w') ∧ w'.cell? ⟨w.heap.size, 0, none⟩ = some (.string nm)) := by
    rintro wx ⟨n, rfl⟩
    have hg : w.grownBy (w1.drewN n) none := fr_both HG1.out (fr_draws _ _ _)
    refine (pwrite_any B b l nm _ (HPB.out.kept hg) (by omega) (Nat.le_trans hBw hg.size)).mono ?_
    rintro e w2 ⟨rfl, h2, hpf⟩
    rw [HND.out] at h2
    have hp : PF B w1 w2 := (PF.draws w1 n hB1).trans hpf
    exact ⟨rfl, h2, hp, hp.cell HK1.out (by decide) (by decide) c0⟩
  go_region_held3 (fun w' => w'.cell? ⟨w.heap.size, 0, none⟩ = some (.string nm)) (go_keep) (first | (go_at_call 40; refine (HWR.out _ ⟨_, rfl⟩).mono ?_; rintro e w2 ⟨rfl, H2, HP2, k0⟩))
  have c1 := HP2.out.cell HK1.out (by decide) (by decide) HC1.out
  have hB2 : B ≤ w2.heap.size := Nat.le_trans hB1 HP2.out.below.size
  clear c0 k0 HWR
  by_cases h0 : N = 0
  · have HE := hide (HTB.out h0)
    have H0 : Hid (N = 0) := h0
    have hN0 : decide (0 < N) = false := by simp [h0]
    clear h0
    go_wp2
    go_end0
    exact ⟨rfl, by rw [HE.out]; exact H2.out, (PF.fresh HG1.out hBw).trans HP2.out⟩
  · have hpos : 0 < N := by omega
    have HE := hide (HTH.out hpos)
    clear h0
    go_wp2_with fail
    refine (pwrite_any B b (l ++ a.name) (str [40]) w2 H2.out (by rw [str_size, List.length_append]; simp; omega) hB2).mono ?_
    rintro e w3 ⟨rfl, h3, hp3⟩
    rw [data_str] at h3
    have HP3 := hide (HP2.out.trans hp3)
    have H3 := hide h3
    have hB3 : B ≤ w3.heap.size := Nat.le_trans hB1 HP3.out.below.size
    clear c1 h3 hp3
    have c1 := HP3.out.cell HK1.out (by decide) (by decide) HC1.out
    have HLS : Hid (∀ wx : World, (∃ n, wx = w3.drewN n) → Calls Tryz.prog 70 #[.pointer (some ⟨b, 0, none⟩), .slice va N vc, .func (.func 71) #[.pointer (some ⟨b, 0, none⟩)] #[]] wx fun e w' => e = .returned (.tuple #[]) ∧ Hid (PB B b (l ++ a.name ++ [40] ++ commaF termTextF a.args) w') ∧ Hid (PF B w1 w') ∧ w'.cell? ⟨w.heap.size, 1, none⟩ = some (.slice va N vc)) := by
      rintro wx ⟨n, rfl⟩
      have hg := HP3.out.trans (PF.draws w3 n hB3)
      have hoo := PF.own (HO.out) ((PF.fresh HG1.out hBw).trans hg) (by decide) (by decide)
      have := wlistT_any B b (l ++ a.name ++ [40]) a.args (.slice va a.args.length vc) BT (w3.drewN n) (H3.out.kept (fr_draws _ _ _)) hoo HWF.out.2.2 (by rw [HN.out]; exact h8) (by simp only [List.length_append, List.length_cons, List.length_nil]; omega) hB3
      rw [HN.out] at this
      refine this.mono ?_
      rintro e w4 ⟨rfl, h4, hp4⟩
      have hp := hg.trans hp4
      exact ⟨rfl, h4, hp, hp.cell HK1.out (by decide) (by decide) HC1.out⟩
    go_wp2_with fail
    refine (HLS.out _ ⟨0, rfl⟩).mono ?_
    rintro e w4 ⟨rfl, H4, HP4, k4⟩
    have hB4 : B ≤ w4.heap.size := Nat.le_trans hB1 HP4.out.below.size
    have hcl := HCL.out
    clear c1 HLS
    go_wp2_with fail
    refine (pwrite_any B b (l ++ a.name ++ [40] ++ commaF termTextF a.args) (str [41]) w4 H4.out (by rw [str_size]; simp only [List.length_append, List.length_cons, List.length_nil]; omega) hB4).mono ?_
    rintro e w5 ⟨rfl, h5, hp5⟩
    rw [data_str] at h5
    have HP5 := hide (HP4.out.trans hp5)
    have H5 : Hid (PB B b (l ++ atomTextF a) w5) := by rw [HE.out, ← List.append_assoc, ← List.append_assoc, ← List.append_assoc]; exact h5
    clear h5 hp5
    go_wp2
    go_end0
    exact ⟨rfl, H5.out, (PF.fresh HG1.out hBw).trans HP5.out⟩
end Go.Proofs.YtoelacloghkooaaGreatDoor
