import Derived.Test.YtdfbjnachakkhaaGreatDoorM15
import Derived.Test.YtdfbjnachakkhaaGreatDoorM04
import Derived.Test.YtdfbjnachakkhaaGreatDoorM10
import Derived.Test.YtdfbjnachakkhaaGreatDoorM22
namespace Go.Proofs.YtdfbjnachakkhaaGreatDoor
open Go.ChangeShapes Go.WideShapes Go.ChangeAt Go.RowKit Go.Hands Go.WideMaps Go.Maps
set_option linter.unusedVariables false
set_option maxRecDepth 100000
theorem index5 (a1 a2 a3 a4 a5 : Option Addr) (n1 n2 n3 n4 n5 c1 c2 c3 c4 c5 : Nat) (w : World) : Sem.run Tryz.prog (Instr.index 125 (.agg #[.slice a1 n1 c1, .slice a2 n2 c2, .slice a3 n3 c3, .slice a4 n4 c4, .slice a5 n5 c5]) (.int .i64 0)) w = .ok (.slice a1 n1 c1) w := by
  kernel_rfl
set_option maxHeartbeats 1000000 in
theorem qtermsOf_any (name lt rt : ByteArray) (ua : Option Addr) (n uc ap lp rp : Nat) (lv rv : Bool) (w : World) :
    Calls Tryz.prog 29 #[.agg #[.int .i64 0, .string name, .slice ua n uc, .int .i64 (ap : Nat), .bool lv, .string lt, .int .i64 (lp : Nat), .bool rv, .string rt, .int .i64 (rp : Nat)]] w fun e w' => e = .returned (.slice ua n uc) ∧ w.grownBy w' none := by
  obtain ⟨wA, HWA⟩ : ∃ wA, Hid (wA = w.alloc (.cells #[.int .i64 0, .string name, .slice ua n uc, .int .i64 (ap : Nat), .bool lv, .string lt, .int .i64 (lp : Nat), .bool rv, .string rt, .int .i64 (rp : Nat)] 67)) := ⟨_, rfl⟩
  have hwA := HWA.out.symm
  have HGA : Hid (w.grownBy wA none) := by rw [HWA.out]; exact fr_alloc _ _ _
  have p0 : wA.heap[w.heap.size]? = some (.cells #[.int .i64 0, .string name, .slice ua n uc, .int .i64 (ap : Nat), .bool lv, .string lt, .int .i64 (lp : Nat), .bool rv, .string rt, .int .i64 (rp : Nat)] 67 (0, 0)) := by rw [HWA.out]; exact heap_alloc_new _ _
  have c0 : wA.cell? ⟨w.heap.size, 0, none⟩ = some (.int .i64 0) := cell_of p0 0 _ rfl
  have c2 : wA.cell? ⟨w.heap.size, 2, none⟩ = some (.slice ua n uc) := cell_of p0 2 _ rfl
  have c4 : wA.cell? ⟨w.heap.size, 4, none⟩ = some (.bool lv) := cell_of p0 4 _ rfl
  have c5 : wA.cell? ⟨w.heap.size, 5, none⟩ = some (.string lt) := cell_of p0 5 _ rfl
  have c6 : wA.cell? ⟨w.heap.size, 6, none⟩ = some (.int .i64 (lp : Nat)) := cell_of p0 6 _ rfl
  have c7 : wA.cell? ⟨w.heap.size, 7, none⟩ = some (.bool rv) := cell_of p0 7 _ rfl
  have c8 : wA.cell? ⟨w.heap.size, 8, none⟩ = some (.string rt) := cell_of p0 8 _ rfl
  have c9 : wA.cell? ⟨w.heap.size, 9, none⟩ = some (.int .i64 (rp : Nat)) := cell_of p0 9 _ rfl
  have hsA : wA.heap.size = w.heap.size + 1 := by rw [HWA.out]; simp
  clear p0
  have hi5 := index5
  go_enter Tryz.func29, Tryz.ntmps29
  go_wp2_with fail
  go_region_held3 (fun w' => w'.cell? ⟨w.heap.size, 0, none⟩ = some (.int .i64 0) ∧ w'.cell? ⟨w.heap.size, 2, none⟩ = some (.slice ua n uc) ∧ w'.cell? ⟨w.heap.size, 4, none⟩ = some (.bool lv) ∧ w'.cell? ⟨w.heap.size, 5, none⟩ = some (.string lt) ∧ w'.cell? ⟨w.heap.size, 6, none⟩ = some (.int .i64 (lp : Nat)) ∧ w'.cell? ⟨w.heap.size, 7, none⟩ = some (.bool rv) ∧ w'.cell? ⟨w.heap.size, 8, none⟩ = some (.string rt) ∧ w'.cell? ⟨w.heap.size, 9, none⟩ = some (.int .i64 (rp : Nat))) (go_keep) (fail)
  go_wp2
  go_ret
  exact ⟨rfl, fr_both HGA.out (fr_both (fr_draws wA 1 none) (fr_alloc _ _ none))⟩
theorem enterV1 : ∀ args w, (callFunc 31 args).run Tryz.prog w = .ok (.enter 31 args) w := enters_of Tryz.func31 (by kernel_rfl) rfl
/-- the set of the names that were asked of -/
structure AheadB (ab mb : Nat) (l : List (List UInt8)) (w : World) : Prop where
  box : w.cell? ⟨ab, 0, none⟩ = some (.map (some mb))
  map : w.ownsMap Tryz.prog 9 unitElem mb l.length (setU l)
  ne : ab ≠ mb
set_option maxHeartbeats 1000000 in
theorem ahead_any (ab mb : Nat) (l : List (List UInt8)) (t : List UInt8) (w : World) (h : AheadB ab mb l w) (ht : ¬ t ∈ l) (hl : t.length ≤ 1000000) (hll : l.length ≤ 1000000) :
    Calls Tryz.prog 31 #[.string (str t), .pointer (some ⟨ab, 0, none⟩)] w fun e w' => e = .returned (.bool false) ∧ AheadB ab mb (l ++ [t]) w' ∧ w.grownBy w' (some mb) := by
  have hkey : keyOf Tryz.prog 9 (.string (str t)) = some (.string t) := by
    have := keyOf_string_mk Tryz.underlying9 (s := str t) (by rw [str_size]; unfold maxLen; omega)
    rw [data_str] at this; exact this
  have hhas : Maps.has (setU l) (.string t) = false := by rw [setU_has]; simp [ht]
  obtain ⟨sx, HSX⟩ : ∃ sx, Hid (sx = str t) := ⟨_, rfl⟩
  rw [← HSX.out] at hkey ⊢
  have hb := h.box
  have hown := h.map
  have HNE := hide h.ne
  obtain ⟨wc, HWC⟩ : ∃ wc, Hid (wc = w.alloc (.cells #[] 76)) := ⟨_, rfl⟩
  have hwc := HWC.out.symm
  have HGC : Hid (w.grownBy wc none) := by rw [HWC.out]; exact fr_alloc _ _ _
  have hbc := (FrS.none (S := fun _ => False) HGC.out).cell hb (fun h => h)
  have hownc := hown.kept HGC.out (by simp)
  go_enter Tryz.func31, Tryz.ntmps31
  go_wp2_with (first
    | (at_lookup; refine wpList_lookup_own_unit _ rfl _ _ 73 rfl 9 76 keyedS Tryz.underlying73 (zeroU _) mb _ _ rfl hown _ _ rfl hkey ?_; rw [hhas])
    | (at_mapUpdate; refine wpList_mapUpdate_own _ rfl _ _ _ 73 rfl 9 76 keyedS Tryz.underlying73 _ mb _ _ rfl hownc (by unfold maxLen; omega) _ _ _ rfl rfl hkey _ [] unitElem_mk ?_; intro w1 hown1 hgrow1)
    | fail)
  have R1 : Hid (w1.ownsMap Tryz.prog 9 unitElem mb (l ++ [t]).length (setU (l ++ [t]))) := by
    rw [setU_snoc, List.length_append]; exact hown1
  have R2 : Hid (w.grownBy w1 (some mb)) := fr_trans (fr_weak HGC.out _) hgrow1 (fun _ _ => Or.inl rfl)
  have R3 : Hid (w1.cell? ⟨ab, 0, none⟩ = some (.map (some mb))) := (FrS.of (S := fun j => j = mb) hgrow1 (fun g e => .inl (Option.some.inj e).symm)).cell hbc HNE.out
  clear hown1 hgrow1
  go_wp2
  go_ret
  exact ⟨rfl, ⟨R3.out, R1.out, HNE.out⟩, R2.out⟩
set_option maxHeartbeats 1000000 in
theorem indexNames_none (base ab mb : Nat) (v : Value) (ns : List (List UInt8)) (w : World) (h : w.ownsRow base 9 1 v ns.length (ts ns)) (ha : AheadB ab mb [] w) (hnd : ns.Nodup) (hl : ns.length ≤ 1000000) (hx : ∀ t ∈ ns, t.length ≤ 1000000) (hne : v.ownBlock ≠ some mb) :
    Calls Tryz.prog 54 #[v, .func (.func 31) #[] #[.pointer (some ⟨ab, 0, none⟩)]] w fun e w' => e = .returned (.int .i64 (-1)) ∧ w.grownBy w' (some mb) := by
  have EG := enterV1
  have HO := hide h
  have HA := hide ha
  have HND := hide hnd
  have HX := hide hx
  obtain ⟨va, vc, hve⟩ := own_form h
  obtain ⟨n, HN⟩ : ∃ n, Hid (n = ns.length) := ⟨_, rfl⟩
  rw [← HN.out] at hve hl
  rw [hve]
  clear h ha hnd hx
  go_enter Tryz.func54, Tryz.ntmps54
  go_wp2
  go_loopw [8] (fun iv wr => ∃ k : Nat, k ≤ n ∧ iv = .int .i64 k ∧ Hid (AheadB ab mb (ns.take k) wr) ∧ Hid (w.grownBy wr (some mb))) (fun iv _ => n - (intOf iv).toNat)
  case atStart => exact ⟨0, by omega, rfl, HA, fr_refl _ _⟩
  case round =>
    obtain ⟨k, hk, rfl, HAK, HG⟩ := hrel
    by_cases hlt : k < n
    · have hlt' : k < ns.length := by rw [← HN.out]; exact hlt
      obtain ⟨g, hg⟩ : ∃ g, va = some ⟨g, 0, none⟩ := by
        rcases HO.out.2 with ⟨e, e0⟩ | ⟨g, cap, cur, e, _⟩
        · omega
        · rw [hve] at e; injection e with e1 e2 e3; exact ⟨g, e1⟩
      have hob : v.ownBlock = some g := by rw [hve, hg]; rfl
      obtain ⟨t, HT⟩ : ∃ t, Hid (ns[k]? = some t) := ⟨_, List.getElem?_eq_getElem hlt'⟩
      have hts : (ts ns)[k]? = some (.string (str t)) := by simp [ts, HT.out]
      have c0 := own_cell HO.out hob k _ hts
      have c1 := (FrS.of (S := fun j => j = mb) HG.out (fun g e => .inl (Option.some.inj e).symm)).cell c0 (fun e => hne (by rw [hob, show g = mb from e]))
      have hnt : ¬ t ∈ ns.take k := by
        intro hm
        have h1 := List.take_append_drop k ns
        have h2 := HND.out
        rw [← h1, List.nodup_append] at h2
        refine h2.2.2 t hm t ?_ rfl
        refine List.mem_of_getElem? (i := 0) ?_
        rw [List.getElem?_drop, Nat.add_zero]; exact HT.out
      have hcall := ahead_any ab mb (ns.take k) t wr HAK.out hnt (HX.out t (List.mem_of_getElem? HT.out)) (by simp; omega)
      have hnx : ns.take k ++ [t] = ns.take (k + 1) := by
        obtain ⟨h1, h2⟩ := List.getElem?_eq_some_iff.1 HT.out
        rw [List.take_succ_eq_append_getElem hlt', h2]
      rw [hnx] at hcall
      obtain ⟨st, HST⟩ : ∃ st, Hid (st = str t) := ⟨_, rfl⟩
      rw [← HST.out] at hcall c1
      have HCA := hide hcall
      rw [hg]
      clear c0 hob hcall hts hnx hnt
      go_wp2_with fail
      refine HCA.out.mono ?_
      rintro e w2 ⟨rfl, ha2, hg2⟩
      have HA2 := hide ha2
      have HG2 : Hid (w.grownBy w2 (some mb)) := fr_both HG.out hg2
      clear hg2 ha2
      go_wp2
      go_roundw
      case rel => exact ⟨k + 1, by omega, by go_num, HA2, HG2⟩
      case measure => simp [intOf]; omega
    · go_wp2
      go_ret
      exact ⟨rfl, HG.out⟩
set_option maxHeartbeats 1000000 in
theorem deleteNames_none (base ab mb : Nat) (v : Value) (ns : List (List UInt8)) (w : World) (h : w.ownsRow base 9 1 v ns.length (ts ns)) (ha : AheadB ab mb [] w) (hnd : ns.Nodup) (hl : ns.length ≤ 1000000) (hx : ∀ t ∈ ns, t.length ≤ 1000000) (hne : v.ownBlock ≠ some mb) :
    Calls Tryz.prog 30 #[v, .func (.func 31) #[] #[.pointer (some ⟨ab, 0, none⟩)]] w fun e w' => e = .returned v ∧ w.grownBy w' (some mb) := by
  have HIX := hide (indexNames_none base ab mb v ns w h ha hnd hl hx hne)
  clear h ha hnd hx hne
  go_enter Tryz.func30, Tryz.ntmps30
  go_wp2_with fail
  refine HIX.out.mono ?_
  rintro e w1 ⟨rfl, hg1⟩
  have HG1 := hide hg1
  clear hg1
  go_wp2
  go_ret
  exact ⟨rfl, HG1.out⟩
end Go.Proofs.YtdfbjnachakkhaaGreatDoor

namespace Go.Proofs.YtdfbjnachakkhaaGreatDoor
open Go.ChangeShapes Go.WideShapes Go.ChangeAt Go.RowKit Go.Hands Go.WideMaps Go.Maps
set_option linter.unusedVariables false
set_option maxRecDepth 100000
set_option maxHeartbeats 2000000 in
theorem variables_any (pb n rn rc : Nat) (ra : Option Addr) (bd u : Value) (p : PPart) (w : World)
    (hparts : PartsAt 65 67 pb w bd [p] [u]) (hk : p.kind = 0) (hvar : ∀ t ∈ p.atom.args, t.isVar = true) (hpl : p.atom.args.length = n) (hnn : n ≤ 8) (hnd : (p.atom.args.map (·.text)).Nodup) (hx : ∀ t ∈ p.atom.args, t.text.length ≤ 1000) :
    Calls Tryz.prog 15 #[.agg #[bd, .slice ra rn rc]] w fun e w' => (∃ a c, e = .returned (.slice a n c)) ∧ w.grownBy w' none := by
  have hmm := @run_makeMap Tryz.prog
  obtain ⟨i0, hi, hz0, hz1, hz2⟩ := info_parts info9
  have HP := hide hparts
  have HV := hide hvar
  have HND := hide hnd
  have HX := hide hx
  have hargs := hparts.args 0 p u rfl rfl
  have HA := hide hargs
  have HT := hide (own_terms hargs)
  obtain ⟨g, bc, hbe, hc⟩ : ∃ g c, bd = .slice (some ⟨g, 0, none⟩) 1 c ∧ ∀ (j : Nat) (x : Value), (partV p u)[j]? = some x → w.cell? ⟨g, j, none⟩ = some x := by
    rcases own_parts hparts with ⟨_, h⟩ | ⟨g, cap, rfl, _, hgw, hc, _⟩
    · cases h
    · refine ⟨g, cap, rfl, fun j x hx => ?_⟩
      have := hc 0 p u rfl rfl j x hx
      rw [Nat.zero_mul, Nat.zero_add] at this
      exact this
  obtain ⟨ua, uc, hue⟩ := own_form hargs
  rw [hpl] at hue
  rw [hue] at hc
  rw [hbe]
  obtain ⟨wA, HWA⟩ : ∃ wA, Hid (wA = w.alloc (.cells #[.slice (some ⟨g, 0, none⟩) 1 bc, .slice ra rn rc] 47)) := ⟨_, rfl⟩
  have hwA := HWA.out.symm
  have HGA : Hid (w.grownBy wA none) := by rw [HWA.out]; exact fr_alloc _ _ _
  have hsA : wA.heap.size = w.heap.size + 1 := by rw [HWA.out]; simp
  have p0 : wA.heap[w.heap.size]? = some (.cells #[.slice (some ⟨g, 0, none⟩) 1 bc, .slice ra rn rc] 47) := by rw [HWA.out]; exact heap_alloc_new _ _
  have c0 : wA.cell? ⟨w.heap.size, 0, none⟩ = some (.slice (some ⟨g, 0, none⟩) 1 bc) := cell_of p0 0 _ rfl
  have hfA := FrS.none (S := fun _ => False) HGA.out
  have q0 := hfA.cell (hc 0 _ rfl) (fun h => h)
  have q1 := hfA.cell (hc 1 _ rfl) (fun h => h)
  have q2 := hfA.cell (hc 2 _ rfl) (fun h => h)
  have q3 := hfA.cell (hc 3 _ rfl) (fun h => h)
  have q4 := hfA.cell (hc 4 _ rfl) (fun h => h)
  have q5 := hfA.cell (hc 5 _ rfl) (fun h => h)
  have q6 := hfA.cell (hc 6 _ rfl) (fun h => h)
  have q7 := hfA.cell (hc 7 _ rfl) (fun h => h)
  have q8 := hfA.cell (hc 8 _ rfl) (fun h => h)
  have q9 := hfA.cell (hc 9 _ rfl) (fun h => h)
  rw [hk] at q0
  obtain ⟨sn, HSN⟩ : ∃ sn, Hid (sn = str p.atom.name) := ⟨_, rfl⟩
  rw [← HSN.out] at q1
  generalize str p.left.text = lt at *
  generalize str p.right.text = rt at *
  generalize p.left.isVar = lv at *
  generalize p.right.isVar = rv at *
  generalize p.left.place = lp at *
  generalize p.right.place = rp at *
  generalize p.atom.place = ap at *
  clear hparts hvar hnd hx hargs hc p0 hfA
  obtain ⟨wB, HWB⟩ : ∃ wB, Hid (wB = wA.alloc (.cells #[.int .i64 0, .string sn, .slice ua n uc, .int .i64 (ap : Nat), .bool lv, .string lt, .int .i64 (lp : Nat), .bool rv, .string rt, .int .i64 (rp : Nat)] 67)) := ⟨_, rfl⟩
  have hwB := HWB.out.symm
  have HGB : Hid (wA.grownBy wB none) := by rw [HWB.out]; exact fr_alloc _ _ _
  have hsB : wB.heap.size = w.heap.size + 2 := by rw [HWB.out]; simp; omega
  have p1 : wB.heap[w.heap.size + 1]? = some (.cells #[.int .i64 0, .string sn, .slice ua n uc, .int .i64 (ap : Nat), .bool lv, .string lt, .int .i64 (lp : Nat), .bool rv, .string rt, .int .i64 (rp : Nat)] 67) := by
    rw [HWB.out, ← hsA]; exact heap_alloc_new _ _
  have d0 : wB.cell? ⟨w.heap.size + 1, 0, none⟩ = some (.int .i64 0) := cell_of p1 0 _ rfl
  have d1 : wB.cell? ⟨w.heap.size + 1, 1, none⟩ = some (.string sn) := cell_of p1 1 _ rfl
  have d2 : wB.cell? ⟨w.heap.size + 1, 2, none⟩ = some (.slice ua n uc) := cell_of p1 2 _ rfl
  have d3 : wB.cell? ⟨w.heap.size + 1, 3, none⟩ = some (.int .i64 (ap : Nat)) := cell_of p1 3 _ rfl
  have d4 : wB.cell? ⟨w.heap.size + 1, 4, none⟩ = some (.bool lv) := cell_of p1 4 _ rfl
  have d5 : wB.cell? ⟨w.heap.size + 1, 5, none⟩ = some (.string lt) := cell_of p1 5 _ rfl
  have d6 : wB.cell? ⟨w.heap.size + 1, 6, none⟩ = some (.int .i64 (lp : Nat)) := cell_of p1 6 _ rfl
  have d7 : wB.cell? ⟨w.heap.size + 1, 7, none⟩ = some (.bool rv) := cell_of p1 7 _ rfl
  have d8 : wB.cell? ⟨w.heap.size + 1, 8, none⟩ = some (.string rt) := cell_of p1 8 _ rfl
  have d9 : wB.cell? ⟨w.heap.size + 1, 9, none⟩ = some (.int .i64 (rp : Nat)) := cell_of p1 9 _ rfl
  clear p1
  have HTO := hide (qtermsOf_any sn lt rt ua n uc ap lp rp lv rv wB)
  go_enter Tryz.func15, Tryz.ntmps15
  go_wp2_with fail
  refine wp_loop_rounds 2 ?_
  rw [rounds_succ]
  go_wp2_with fail
  refine HTO.out.mono ?_
  rintro _ w1 ⟨rfl, hg1⟩
  have HG1 : Hid (w.grownBy w1 none) := fr_both (fr_both HGA.out HGB.out) hg1
  have hs1 : wB.heap.size ≤ w1.heap.size := hg1.size
  clear hg1 d0 d1 d2 d3 d4 d5 d6 d7 d8 d9 q0 q1 q2 q3 q4 q5 q6 q7 q8 q9 HTO
  go_wp2_with fail
  go_loopw [3, 19] (fun tv iv wr => ∃ i : Nat, i ≤ n ∧ iv = .int .i64 i ∧ Hid (wr.ownsRow w.heap.size 9 1 tv i (ts ((p.atom.args.take i).map (·.text)))) ∧ Hid (w.grownBy wr none)) (fun _ iv _ => n - (intOf iv).toNat)
  case atStart =>
    exact ⟨0, Nat.zero_le _, rfl, World.ownsRow_nil _ _ _ _, HG1⟩
  case round =>
    obtain ⟨i, hin, rfl, HR, HG⟩ := hrel
    obtain ⟨ta, tc, htv⟩ := own_form HR.out
    subst htv
    have hws : w.heap.size ≤ wr.heap.size := HG.out.size
    by_cases hlt : i < n
    · have hlt' : i < p.atom.args.length := by rw [hpl]; exact hlt
      obtain ⟨t, HTI⟩ : ∃ t, Hid (t = p.atom.args[i]) := ⟨p.atom.args[i], (rfl : p.atom.args[i] = _)⟩
      have htm : t ∈ p.atom.args := by rw [HTI.out]; exact List.getElem_mem _
      obtain ⟨gu, hg, z0, z1, z2⟩ : ∃ gu, ua = some ⟨gu, 0, none⟩ ∧ w.cell? ⟨gu, i * 3, none⟩ = some (.bool true) ∧ w.cell? ⟨gu, i * 3 + 1, none⟩ = some (.string (str t.text)) ∧ w.cell? ⟨gu, i * 3 + 2, none⟩ = some (.int .i64 (t.place : Nat)) := by
        rcases HT.out with ⟨_, h0⟩ | ⟨gu, cap, hug, _, hgl, hcc⟩
        · rw [h0] at hlt'; simp at hlt'
        · obtain ⟨z0, z1, z2⟩ := hcc i hlt'
          rw [← HTI.out] at z0 z1 z2
          rw [HV.out _ htm] at z0
          rw [hue] at hug
          injection hug with e1 _ _
          exact ⟨gu, e1, z0, z1, z2⟩
      have hfw := FrS.none (S := fun _ => False) HG.out
      replace z0 := hfw.cell z0 (fun h => h)
      replace z1 := hfw.cell z1 (fun h => h)
      replace z2 := hfw.cell z2 (fun h => h)
      rw [hg]
      obtain ⟨st, HST⟩ : ∃ st, Hid (st = str t.text) := ⟨_, rfl⟩
      rw [← HST.out] at z1
      obtain ⟨pl, HPL⟩ : ∃ pl, Hid (pl = t.place) := ⟨_, rfl⟩
      rw [← HPL.out] at z2
      obtain ⟨wb, HWB2⟩ : ∃ wb, Hid (wb = wr.alloc (.cells #[.bool true, .string st, .int .i64 (pl : Nat)] 65)) := ⟨_, rfl⟩
      have hwb := HWB2.out.symm
      have HGB2 : Hid (wr.grownBy wb none) := by rw [HWB2.out]; exact fr_alloc _ _ _
      have hbl : wb.heap[wr.heap.size]? = some (.cells #[.bool true, .string st, .int .i64 (pl : Nat)] 65) := by rw [HWB2.out]; exact heap_alloc_new _ _
      have e0 : wb.cell? ⟨wr.heap.size, 0, none⟩ = some (.bool true) := cell_of hbl 0 _ rfl
      have e1 : wb.cell? ⟨wr.heap.size, 1, none⟩ = some (.string st) := cell_of hbl 1 _ rfl
      have HRB : Hid (wb.ownsRow w.heap.size 9 1 (.slice ta i tc) i (ts ((p.atom.args.take i).map (·.text)))) := HR.out.kept HGB2.out (by cases (Value.slice ta i tc).ownBlock <;> simp)
      have hbs : w.heap.size ≤ wb.heap.size := Nat.le_trans hws HGB2.out.size
      have HTN : Hid (ts ((p.atom.args.take i).map (·.text)) ++ [.string st] = ts ((p.atom.args.take (i + 1)).map (·.text))) := by
        show _ = _
        rw [List.take_succ_eq_append_getElem hlt', List.map_append, HST.out, HTI.out]; simp [ts]
      clear hbl hfw
      go_wp2_with (at_builtin; refine wpList_append_own_at _ rfl _ _ 28 rfl w.heap.size 9 i0 (.string { data := #[] }) 1 16 Tryz.underlying28 hi hz0 hz1 hz2 rfl (by omega) _ _ _ rfl (HRB.out.alloc _) ⟨wb.heap.size, 0, none⟩ 1 1 [.string st] rfl rfl (fun j q hj => cell_new8 wb _ _ _ j q hj) (by simp [Value.oneCell']) (by unfold maxLen; omega) (by omega) (by simp; omega) ?_)
      intro v2 w5 hown5 hg5 hnil5 hat5
      have HF5 : FrS (fun j => (Value.slice ta i tc).ownBlock = some j) wb w5 := FrS.trans (S' := fun j => (Value.slice ta i tc).ownBlock = some j) (FrS.none (fr_alloc wb _ none)) (FrS.of hg5 (fun g e => .inl e)) (fun j _ e => e)
      have HG5 : Hid (w.grownBy w5 none) := fr_far (fr_both HG.out HGB2.out) HF5 (fun j hj e => by have := (own_blk HRB.out e).1; omega)
      have HR5 : Hid (w5.ownsRow w.heap.size 9 1 v2 (i + 1) (ts ((p.atom.args.take (i + 1)).map (·.text)))) := by have h := hown5; rw [← List.map_take] at h; rw [← HTN.out]; exact h
      obtain ⟨xa, xc, hv2⟩ := own_form hown5
      clear hown5 hg5 hnil5 hat5 HF5 e0 e1 z0 z1 z2
      subst hv2
      go_wp2
      go_roundw
      case rel => exact ⟨i + 1, by omega, by go_num, HR5, HG5⟩
      case measure => simp [intOf]; omega
    · have him : i = n := by omega
      subst him
      go_wp2_with fail
      rw [rounds_succ]
      obtain ⟨wM, HWM⟩ : ∃ wM, Hid (wM = (wr.alloc (.map #[] 0)).alloc (.cells #[.map (some wr.heap.size)] 73)) := ⟨_, rfl⟩
      have hwM := HWM.out.symm
      have HGM : Hid (wr.grownBy wM none) := by rw [HWM.out]; exact fr_both (fr_alloc _ _ _) (fr_alloc _ _ _)
      have HAB : Hid (AheadB (wr.heap.size + 1) wr.heap.size [] wM) := by
        refine ⟨?_, ?_, by omega⟩
        · have h1 := heap_alloc_new (wr.alloc (.map #[] 0)) (.cells #[.map (some wr.heap.size)] 73)
          rw [World.size_alloc] at h1
          rw [HWM.out]; exact cell_of h1 0 _ rfl
        · rw [HWM.out]
          exact (World.ownsMap_made (H := Unit) wr Tryz.prog 9 unitElem).kept (fr_alloc _ _ none) (by simp)
      have HRM : Hid (wM.ownsRow w.heap.size 9 1 (.slice ta i tc) (p.atom.args.map (·.text)).length (ts (p.atom.args.map (·.text)))) := by
        have h1 := HR.out
        rw [← hpl, List.take_length] at h1
        have h2 : (p.atom.args.map (·.text)).length = p.atom.args.length := List.length_map ..
        rw [h2, ← hpl]
        exact h1.kept HGM.out (by cases (Value.slice ta p.atom.args.length tc).ownBlock <;> simp)
      have HDN := hide (deleteNames_none w.heap.size (wr.heap.size + 1) wr.heap.size (.slice ta i tc) (p.atom.args.map (·.text)) wM HRM.out HAB.out HND.out (by rw [List.length_map, hpl]; omega) (fun t ht => by obtain ⟨q, hq, rfl⟩ := List.mem_map.1 ht; have := HX.out q hq; omega) (fun e => by have := (own_old HR.out e).2; omega))
      go_wp2_with fail
      refine HDN.out.mono ?_
      rintro _ w6 ⟨rfl, hg6⟩
      have HG6 : Hid (w.grownBy w6 none) := fr_far (fr_both HG.out HGM.out) (FrS.of (S := fun j => j = wr.heap.size) hg6 (fun g e => .inl (Option.some.inj e).symm)) (fun j hj e => by have e' : j = wr.heap.size := e; omega)
      clear hg6
      go_wp2
      go_ret
      exact ⟨⟨_, _, rfl⟩, HG6.out⟩
end Go.Proofs.YtdfbjnachakkhaaGreatDoor
