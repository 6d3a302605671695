import Derived.Test.YtdfbjnachakkhaaGreatDoorM30
import Derived.Test.YtdfbjnachakkhaaGreatDoorM31
import Derived.Test.YtdfbjnachakkhaaGreatDoorM37
import Derived.Test.YtdfbjnachakkhaaGreatDoorM45
import Derived.Test.YtdfbjnachakkhaaGreatDoorM46
import Derived.Test.YtdfbjnachakkhaaGreatDoorM39
import Derived.Deep.RegionHeld3
namespace Go.Proofs.YtdfbjnachakkhaaGreatDoor
open Go.ChangeShapes Go.WideShapes Go.ChangeAt Go.RowKit Go.Hands Go.WideMaps Go.Maps
set_option linter.unusedVariables false
set_option maxRecDepth 100000
theorem tidyOK {name : List UInt8} {n : Nat} {rows L : List (List (List UInt8))} {ti : Nat} (h : tidy name (n : Nat) rows = (0, ti, L)) : isName name = true ∧ n ≤ 8 ∧ (∀ r ∈ rows, r.length = n ∧ ∀ t ∈ r, t.length ≤ 200) ∧ ti = 0 ∧ L = sortU rows ∧ L.length ≤ 2000 := by
  by_cases hf : (faultOf name (n : Nat) rows).1 = 0
  · obtain ⟨h1, h2, h3, h4, h5⟩ := tidy_sound name (n : Nat) rows hf
    rw [h5] at h
    split at h
    · cases h
    · cases h
      exact ⟨h1, by omega, h4, rfl, rfl, by omega⟩
  · have := tidy_fault name (n : Nat) rows hf
    rw [this] at h
    injection h with e1 _
    exact absurd e1 hf
theorem rises_nodup {m : Nat} {L : List (List (List UInt8))} (h : Rises m L) : L.Nodup := by
  rw [List.Nodup, List.pairwise_iff_getElem]
  intro i j hi hj hij e
  have := h.2 i j _ _ hij (List.getElem?_eq_getElem hi) (List.getElem?_eq_getElem hj)
  rw [e, ordR_self] at this
  omega
theorem ask_read {name : List UInt8} {n : Nat} {x : PPart} (h : nP x = nP (askP name n)) (hn : n ≤ 8) : x.kind = 0 ∧ x.atom.name = name ∧ x.atom.args.length = n ∧ (∀ t ∈ x.atom.args, t.isVar = true) ∧ (x.atom.args.map (·.text)).Nodup ∧ ∀ t ∈ x.atom.args, t.text.length ≤ 1000 := by
  obtain ⟨h1, h2, h3⟩ := nP_same h
  have e3 : x.atom.args.map (fun t => (t.isVar, t.text)) = (List.range n).map (fun i => (true, [86, UInt8.ofNat (48 + i)])) := by
    rw [h3]; simp only [askP, List.map_map]; rfl
  have hm : ∀ t ∈ x.atom.args, t.isVar = true ∧ t.text.length = 2 := by
    intro t ht
    have : (t.isVar, t.text) ∈ x.atom.args.map (fun t => (t.isVar, t.text)) := List.mem_map.2 ⟨t, ht, rfl⟩
    rw [e3] at this
    obtain ⟨i, _, e⟩ := List.mem_map.1 this
    injection e with e1 e2
    exact ⟨e1.symm, by rw [← e2]; rfl⟩
  refine ⟨h1, h2, ?_, fun t ht => (hm t ht).1, ?_, fun t ht => by have := (hm t ht).2; omega⟩
  · have := congrArg List.length e3
    simpa using this
  · have e4 : x.atom.args.map (·.text) = (List.range n).map (fun i => [86, UInt8.ofNat (48 + i)]) := by
      have := congrArg (List.map Prod.snd) e3
      rw [List.map_map, List.map_map] at this
      exact this
    rw [e4]
    obtain rfl | rfl | rfl | rfl | rfl | rfl | rfl | rfl | rfl : n = 0 ∨ n = 1 ∨ n = 2 ∨ n = 3 ∨ n = 4 ∨ n = 5 ∨ n = 6 ∨ n = 7 ∨ n = 8 := by omega
    all_goals decide
set_option maxHeartbeats 4000000 in
theorem ask_any (B g c n : Nat) (name : List UInt8) (s : ByteArray) (rv : Value) (vs : List Value) (rows : List (List (List UInt8))) (L T M : Addr) (w : World) (hE : Errs w L T M) (hB : ErrB w L T M) (hgt : gTop ≤ w.heap.size) (hs : s.data.toList = partTextF (askP name n) ++ [46])
    (hrel : w.ownsRow B 32 3 (.slice (some ⟨g, 0, none⟩) 1 c) 1 [.string (str name), .int .i64 (n : Nat), rv]) (h : Rows2 w rv vs rows) (hrl : rows.length ≤ 1073741824) (hrr : ∀ r ∈ rows, r.length ≤ 1099511627776) (hname : name.length ≤ 1000) (ht : tidy name (n : Nat) rows = (0, 0, sortU rows)) :
    Calls Tryz.prog 6 #[.string s, .slice (some ⟨g, 0, none⟩) 1 c] w fun e w' => (∃ va vc v' us, e = .returned (.tuple #[.slice va n vc, v', .int .i64 0, .int .i64 0]) ∧ Deep w.heap.size w' v' us (sortU rows)) ∧ w.grownBy w' none := by
  obtain ⟨hin, hn8, hrw, _, _, hlen⟩ := tidyOK ht
  have hru : ∀ r ∈ rows, r.length = n := fun r hr => (hrw r hr).1
  have hms := mem_sortU n rows hru
  have hrise := sortU_rises n rows hru
  obtain ⟨x, hx, hq⟩ := query_part (askP_wf hin hn8) (by have := ask_len name hin n hn8; omega)
  obtain ⟨x1, x2, x3, x4, x5, x6⟩ := ask_read hx hn8
  have HQ := pQuery_any s L T M w hE hB hgt
  rw [hs, hq] at HQ
  have HTD := hide (fun (W : World) (hg : w.grownBy W none) => tidied_any B g c name n rv vs rows W (own_far hrel hg (by simp)) (h.kept (below_fresh hg)) hname hrl hrr ht)
  have HX := hide (And.intro x1 (And.intro x2 (And.intro x3 (And.intro x4 (And.intro x5 x6)))))
  have HL := hide (And.intro (rises_nodup hrise) (And.intro hlen (And.intro (fun r (hr : r ∈ sortU rows) => ((⟨(hrw r ((hms r).1 hr)).1, fun t htt => by have := (hrw r ((hms r).1 hr)).2 t htt; omega⟩ : r.length = n ∧ ∀ t ∈ r, t.length ≤ 1000))) (sortU_self n _ hrise))))
  have HQH := hide HQ
  clear HQ hx hq hs hrel h hrr ht hrw hms hrise x1 x2 x3 x4 x5 x6 hlen hru hE hB
  go_enter Tryz.func6, Tryz.ntmps6
  go_wp2_with fail
  refine HQH.out.mono ?_
  rintro _ w1 ⟨⟨bd, us0, rfl, hpa⟩, hg1⟩
  obtain ⟨bda, bdc, hbd⟩ : ∃ a c, bd = .slice a 1 c := by obtain ⟨a, c, h⟩ := own_form hpa.own; exact ⟨a, c, h⟩
  obtain ⟨u, hu⟩ : ∃ u, us0 = [u] := by
    have := hpa.len
    match us0, this with
    | [u], _ => exact ⟨u, rfl⟩
  subst hu
  have HPA := hide hpa
  have HG1 := hide hg1
  have HTD1 := hide (HTD.out w1 hg1)
  clear hpa hg1 HQH HTD
  rw [hbd]
  go_wp2_with fail
  refine HTD1.out.mono ?_
  rintro _ w2 ⟨⟨rb, rc, v, us, rfl, hown2, hd2⟩, hg2⟩
  have HO2 := hide hown2
  have HD2 := hide hd2
  have HG2 := hide hg2
  clear hown2 hd2 hg2 HTD1
  obtain ⟨va0, vc0, hve⟩ := own_form HD2.out.1
  obtain ⟨wQ, HWQ⟩ : ∃ wQ, Hid (wQ = w2.alloc (.cells #[.slice bda 1 bdc, .slice (some ⟨rb, 0, none⟩) 1 rc] 47)) := ⟨_, rfl⟩
  have hwQ := HWQ.out.symm
  have HGQ : Hid (w2.grownBy wQ none) := by rw [HWQ.out]; exact fr_alloc _ _ _
  have hpQ : wQ.heap[w2.heap.size]? = some (.cells #[.slice bda 1 bdc, .slice (some ⟨rb, 0, none⟩) 1 rc] 47 (0, 0)) := by rw [HWQ.out]; exact heap_alloc_new _ _
  have c0 : wQ.cell? ⟨w2.heap.size, 0, none⟩ = some (.slice bda 1 bdc) := cell_of hpQ 0 _ rfl
  have c1 : wQ.cell? ⟨w2.heap.size, 1, none⟩ = some (.slice (some ⟨rb, 0, none⟩) 1 rc) := cell_of hpQ 1 _ rfl
  obtain ⟨y1, y2, y3, y4, y5, y6⟩ := HX.out
  have HPQ : Hid (PartsAt 65 67 w.heap.size wQ bd [x] [u]) := HPA.out.kept (fr_both HG2.out HGQ.out) (fun g h => by cases h)
  have HOQ : Hid (wQ.ownsRow w1.heap.size 32 3 (.slice (some ⟨rb, 0, none⟩) 1 rc) 1 [.string (str name), .int .i64 (n : Nat), v]) := own_far HO2.out HGQ.out (by simp)
  have HFL : Hid (Calls Tryz.prog 14 #[.agg #[.slice bda 1 bdc, .slice (some ⟨rb, 0, none⟩) 1 rc]] wQ fun e w' => e = .returned (.tuple #[.int .i64 0, .int .i64 0]) ∧ wQ.grownBy w' none) := by
    rw [← hbd]
    exact fault_any' w1.heap.size w.heap.size rb rc n name bd u x v wQ HPQ.out y1 y2 y4 y3 y6 hn8 va0 us.length vc0 hve HOQ.out hname
  clear y1 y2 y3 y4 y5 y6 hpQ
  go_wp2_with fail
  refine HFL.out.mono ?_
  rintro _ w3 ⟨rfl, hg3⟩
  have HG3 := hide hg3
  have hf3 := FrS.none (S := fun _ => False) hg3
  replace c0 := hf3.cell c0 (fun h => h)
  replace c1 := hf3.cell c1 (fun h => h)
  clear hg3 hf3 HFL
  have HVA : Hid (∀ Wd, (∃ k, Wd = w3.drewN k) → Calls Tryz.prog 15 #[.agg #[.slice bda 1 bdc, .slice (some ⟨rb, 0, none⟩) 1 rc]] Wd fun e w' => ∃ na nc, e = .returned (.slice na n nc) ∧ Hid (w3.grownBy w' none) ∧ w'.cell? ⟨w2.heap.size, 0, none⟩ = some (.slice bda 1 bdc) ∧ w'.cell? ⟨w2.heap.size, 1, none⟩ = some (.slice (some ⟨rb, 0, none⟩) 1 rc)) := by
    rintro Wd ⟨k, rfl⟩
    have hd := fr_draws w3 k none
    obtain ⟨y1, y2, y3, y4, y5, y6⟩ := HX.out
    rw [← hbd]
    refine (variables_any w.heap.size n 1 rc (some ⟨rb, 0, none⟩) bd u x (w3.drewN k) (HPQ.out.kept (fr_both HG3.out hd) (fun g h => by cases h)) y1 y4 y3 hn8 y5 y6).mono ?_
    rintro e w' ⟨⟨na, nc, rfl⟩, hg⟩
    have hgg := fr_both hd hg
    have hf := FrS.none (S := fun _ => False) hgg
    rw [hbd]
    exact ⟨na, nc, rfl, hgg, hf.cell c0 (fun h => h), hf.cell c1 (fun h => h)⟩
  have HAN : Hid (∀ Wd, Hid (w3.grownBy Wd none) → Calls Tryz.prog 16 #[.agg #[.slice bda 1 bdc, .slice (some ⟨rb, 0, none⟩) 1 rc]] Wd fun e w' => ∃ aa an ac vs', e = .returned (.slice aa an ac) ∧ Hid (Deep w.heap.size w' (.slice aa an ac) vs' (sortU rows) ∧ w3.grownBy w' none) ∧ w'.cell? ⟨w2.heap.size, 0, none⟩ = some (.slice bda 1 bdc) ∧ w'.cell? ⟨w2.heap.size, 1, none⟩ = some (.slice (some ⟨rb, 0, none⟩) 1 rc)) := by
    intro Wd HWd
    have hg3d := fr_both HG3.out HWd.out
    have hgQd := fr_both HGQ.out hg3d
    obtain ⟨y1, y2, y3, y4, y5, y6⟩ := HX.out
    obtain ⟨z1, z2, z3, z4⟩ := HL.out
    rw [← hbd]
    refine (answers_any w1.heap.size w1.heap.size w.heap.size rb rc n name bd u x v us (sortU rows) Wd (HPQ.out.kept hg3d (fun g h => by cases h)) y1 y2 y4 y3 y5 y6 (own_far HOQ.out hg3d (by simp)) ⟨HD2.out.1.kept hgQd (by cases v.ownBlock <;> simp), HD2.out.2.1, fun i q r h1 h2 => (HD2.out.2.2 i q r h1 h2).kept hgQd (by cases q.ownBlock <;> simp)⟩ z3 hn8 z1 z2 hname).mono ?_
    rintro e w' ⟨⟨v', vs', rfl, hdp⟩, hg⟩
    rw [z4] at hdp
    have hgg := fr_both HWd.out hg
    have hf := FrS.none (S := fun _ => False) hgg
    obtain ⟨aa, ac, hva⟩ := own_form hdp.1
    have hws : w.heap.size ≤ Wd.heap.size := (fr_both HG1.out (fr_both HG2.out hgQd)).size
    rw [hbd]
    subst hva
    exact ⟨aa, _, ac, vs', rfl, ⟨⟨own_lower hdp.1 hws, hdp.2.1, fun i q r h1 h2 => own_lower (hdp.2.2 i q r h1 h2) hws⟩, hgg⟩, hf.cell c0 (fun h => h), hf.cell c1 (fun h => h)⟩
  go_wp2_with fail
  go_region_held3 (fun w' => w'.cell? ⟨w2.heap.size, 0, none⟩ = some (.slice bda 1 bdc) ∧ w'.cell? ⟨w2.heap.size, 1, none⟩ = some (.slice (some ⟨rb, 0, none⟩) 1 rc)) (go_keep)
    (first
      | (go_at_call 15; refine (HVA.out _ ⟨_, rfl⟩).mono ?_; rintro e w4 ⟨na, nc, rfl, HG4, e0, e1⟩)
      | (go_at_call 16; refine (HAN.out _ HG4).mono ?_; rintro e w5 ⟨aa, an, ac, vs', rfl, HF5, f0, f1⟩))
  all_goals go_wp2
  all_goals refine bodyPost_ret (v := .tuple #[.slice na n nc, .slice aa an ac, .int .i64 0, .int .i64 0]) (by simp [results, Tryz.results6, go_sem]) rfl ⟨⟨na, nc, _, vs', rfl, HF5.out.1⟩, fr_both HG1.out (fr_both HG2.out (fr_both HGQ.out (fr_both HG3.out HF5.out.2)))⟩
end Go.Proofs.YtdfbjnachakkhaaGreatDoor

namespace Go.Proofs.YtdfbjnachakkhaaGreatDoor
open Go.ChangeShapes Go.WideShapes Go.ChangeAt Go.RowKit
set_option linter.unusedVariables false
set_option maxRecDepth 100000 in
set_option maxHeartbeats 2000000 in
theorem relation_any (name : ByteArray) (ar : Int) (rv : Value) (vs : List Value) (rows : List (List (List UInt8))) (w : World) (h : Rows2 w rv vs rows) (hrl : rows.length ≤ 1073741824) (hrr : ∀ r ∈ rows, r.length ≤ 1099511627776) :
    Calls Tryz.prog 7 #[.agg #[.string name, .int .i64 ar, rv]] w fun e w' => (∃ v us, e = .returned (.agg #[.string name, .int .i64 ar, v]) ∧ Deep w.heap.size w' v us rows) ∧ Below w.heap.size w w' := by
  have HH : Hid (Rows2 w rv vs rows) := h
  have HRR : Hid (∀ r ∈ rows, r.length ≤ 1099511627776) := hrr
  clear hrr
  obtain ⟨⟨a, cap, rfl, -⟩, -, -⟩ := h
  go_enter Tryz.func7, Tryz.ntmps7
  go_wp2_with fail
  obtain ⟨W0, HW0⟩ : ∃ W0, Hid (W0 = (w.alloc (.cells #[.string name, .int .i64 ar, .slice a vs.length cap] 24)).alloc (.cells #[.string { data := #[] }, .int .i64 0, .slice none 0 0] 32)) := ⟨_, rfl⟩
  have HB0 : Hid (Below w.heap.size w W0) := by rw [HW0.out]; exact ((Below.refl _ _).alloc (Nat.le_refl _) _).alloc (by simp) _
  have HZ0 : Hid (W0.heap.size = w.heap.size + 2) := by show _ = _; rw [HW0.out]; simp
  have q0 : W0.cell? ⟨w.heap.size, 0, none⟩ = some (.string name) := by rw [HW0.out]; simp
  have q1 : W0.cell? ⟨w.heap.size, 1, none⟩ = some (.int .i64 ar) := by rw [HW0.out]; simp
  have q2 : W0.cell? ⟨w.heap.size, 2, none⟩ = some (.slice a vs.length cap) := by rw [HW0.out]; simp
  have HP : Hid (W0.cell? ⟨w.heap.size + 1, 0, none⟩ = some (.string { data := #[] }) ∧ W0.cell? ⟨w.heap.size + 1, 1, none⟩ = some (.int .i64 0) ∧ W0.cell? ⟨w.heap.size + 1, 2, none⟩ = some (.slice none 0 0)) := by
    rw [HW0.out]; exact ⟨by simp, by simp, by simp⟩
  have HFZ : Hid (∀ i, W0.frozen? ⟨w.heap.size + 1, i, none⟩ = false) := by
    rw [HW0.out]; exact fun i => World.frozen?_alloc_at _ _ _ _ (by simp)
  rw [← HW0.out]
  clear HW0
  have HC : Hid (∀ wx : World, (∃ n, wx = W0.drewN n) → Calls Tryz.prog 17 #[.slice a vs.length cap] wx fun e w' => ∃ (a2 : Option Addr) (c2 : Nat) (us : List Value), e = .returned (.slice a2 us.length c2) ∧ Hid (Deep (w.heap.size + 2) w' (.slice a2 us.length c2) us rows) ∧ Hid (Below w.heap.size w w') ∧ w'.cell? ⟨w.heap.size, 0, none⟩ = some (.string name) ∧ w'.cell? ⟨w.heap.size, 1, none⟩ = some (.int .i64 ar) ∧ w'.cell? ⟨w.heap.size, 2, none⟩ = some (.slice a vs.length cap)
      ∧ w'.cell? ⟨w.heap.size + 1, 0, none⟩ = some (.string { data := #[] }) ∧ w'.cell? ⟨w.heap.size + 1, 1, none⟩ = some (.int .i64 0) ∧ w'.cell? ⟨w.heap.size + 1, 2, none⟩ = some (.slice none 0 0) ∧ w'.frozen? ⟨w.heap.size + 1, 0, none⟩ = false ∧ w'.frozen? ⟨w.heap.size + 1, 1, none⟩ = false ∧ w'.frozen? ⟨w.heap.size + 1, 2, none⟩ = false) := by
    rintro wx ⟨n, rfl⟩
    have hB : Below w.heap.size w (W0.drewN n) := below_drewN HB0.out n
    refine (rowsOf_any _ vs rows _ (HH.out.kept hB) hrl HRR.out).mono ?_
    rintro e w2 ⟨⟨v2, us, rfl, hd⟩, hb2⟩
    obtain ⟨a2, c2, rfl⟩ := own_shape' hd.1
    have hz : (W0.drewN n).heap.size = w.heap.size + 2 := HZ0.out
    have hb3 : Below (w.heap.size + 2) W0 w2 := (below_drewN (Below.refl _ _) n).trans (by rw [← hz]; exact hb2)
    refine ⟨a2, c2, us, rfl, by rw [hz] at hd; exact hd, HB0.out.trans (hb3.mono (by omega)), ?_, ?_, ?_, ?_, ?_, ?_, ?_, ?_, ?_⟩
    · exact (hb3.cell (p := ⟨w.heap.size, 0, none⟩) (show w.heap.size < w.heap.size + 2 by omega)).trans q0
    · exact (hb3.cell (p := ⟨w.heap.size, 1, none⟩) (show w.heap.size < w.heap.size + 2 by omega)).trans q1
    · exact (hb3.cell (p := ⟨w.heap.size, 2, none⟩) (show w.heap.size < w.heap.size + 2 by omega)).trans q2
    · exact (hb3.cell (p := ⟨w.heap.size + 1, 0, none⟩) (show w.heap.size + 1 < w.heap.size + 2 by omega)).trans HP.out.1
    · exact (hb3.cell (p := ⟨w.heap.size + 1, 1, none⟩) (show w.heap.size + 1 < w.heap.size + 2 by omega)).trans HP.out.2.1
    · exact (hb3.cell (p := ⟨w.heap.size + 1, 2, none⟩) (show w.heap.size + 1 < w.heap.size + 2 by omega)).trans HP.out.2.2
    · exact (hb3.frozen (p := ⟨w.heap.size + 1, 0, none⟩) (show w.heap.size + 1 < w.heap.size + 2 by omega)).trans (HFZ.out 0)
    · exact (hb3.frozen (p := ⟨w.heap.size + 1, 1, none⟩) (show w.heap.size + 1 < w.heap.size + 2 by omega)).trans (HFZ.out 1)
    · exact (hb3.frozen (p := ⟨w.heap.size + 1, 2, none⟩) (show w.heap.size + 1 < w.heap.size + 2 by omega)).trans (HFZ.out 2)
  go_region_held3 (fun w' => w'.cell? ⟨w.heap.size, 0, none⟩ = some (.string name) ∧ w'.cell? ⟨w.heap.size, 1, none⟩ = some (.int .i64 ar) ∧ w'.cell? ⟨w.heap.size, 2, none⟩ = some (.slice a vs.length cap)) (go_keep)
    (first | (go_at_call 17; refine (HC.out _ ⟨_, rfl⟩).mono ?_; rintro e w2 ⟨a2, c2, us, rfl, HD2, HB2, k0, k1, k2, p0, p1, p2, f0, f1, f2⟩))
  all_goals go_wp2
  all_goals refine bodyPost_ret (v := .agg #[.string name, .int .i64 ar, .slice a2 us.length c2]) (by simp [results, Tryz.results7, go_sem, p0, p1, p2]) rfl ⟨?_, ?_⟩
  · refine ⟨_, us, rfl, Deep.mono (base := w.heap.size + 2) ?_ (by omega)⟩
    exact ((HD2.out.setBelow (a := ⟨w.heap.size + 1, 0, none⟩) (Nat.lt_succ_self _) _).setBelow (a := ⟨w.heap.size + 1, 1, none⟩) (Nat.lt_succ_self _) _).setBelow (a := ⟨w.heap.size + 1, 2, none⟩) (Nat.lt_succ_self _) _
  · exact ((HB2.out.setCell (p := ⟨w.heap.size + 1, 0, none⟩) (Nat.le_succ _) _).setCell (p := ⟨w.heap.size + 1, 1, none⟩) (Nat.le_succ _) _).setCell (p := ⟨w.heap.size + 1, 2, none⟩) (Nat.le_succ _) _
end Go.Proofs.YtdfbjnachakkhaaGreatDoor

namespace Go.Proofs.YtdfbjnachakkhaaGreatDoor
open Go.ChangeShapes Go.WideShapes Go.ChangeAt Go.RowKit Go.Hands Go.WideMaps Go.Maps
set_option linter.unusedVariables false
set_option maxRecDepth 100000
set_option maxHeartbeats 1000000 in
theorem decimal_any (i : Nat) (hi : i < 8) (w : World) :
    Calls Tryz.prog 5 #[.int .i64 (i : Nat)] w fun e w' => e = .returned (.string (str [UInt8.ofNat (48 + i)])) ∧ w.grownBy w' none := by
  obtain rfl | rfl | rfl | rfl | rfl | rfl | rfl | rfl : i = 0 ∨ i = 1 ∨ i = 2 ∨ i = 3 ∨ i = 4 ∨ i = 5 ∨ i = 6 ∨ i = 7 := by omega
  all_goals
    have hl : ∀ c : Int, Sem.run Tryz.prog (convert 40 9 (.slice (some ⟨w.heap.size, 0, none⟩) 1 1)) (w.alloc (.cells #[.int .u8 c] 5)) = .ok (.string (str ([c].map fun x => UInt8.ofNat x.toNat))) (w.alloc (.cells #[.int .u8 c] 5)) := fun c => lit_string w [c]
    go_enter Tryz.func5, Tryz.ntmps5
    go_wp2
    go_ret
    exact ⟨rfl, fr_alloc _ _ _⟩
end Go.Proofs.YtdfbjnachakkhaaGreatDoor

namespace Go.Proofs.YtdfbjnachakkhaaGreatDoor
open Go.ChangeShapes Go.WideShapes Go.ChangeAt Go.RowKit Go.Hands Go.WideMaps Go.Maps
set_option linter.unusedVariables false
set_option maxRecDepth 100000
theorem colsF_next (i : Nat) (h : 0 < i) : colsF (i + 1) = colsF i ++ [44, 32, 86, UInt8.ofNat (48 + i)] := by
  cases i with
  | zero => omega
  | succ i => rfl
theorem colsF_len (i : Nat) (h : i ≤ 8) : (colsF i).length ≤ 40 := by
  match i, h with
  | 0, _ => decide
  | 1, _ => decide
  | 2, _ => decide
  | 3, _ => decide
  | 4, _ => decide
  | 5, _ => decide
  | 6, _ => decide
  | 7, _ => decide
  | 8, _ => decide
theorem tidy_ti {name : List UInt8} {ar : Int} {rows L : List (List (List UInt8))} {te ti : Nat} (he : te = 0) (h : tidy name ar rows = (te, ti, L)) : ti = 0 := by
  subst he
  by_cases hf : (faultOf name ar rows).1 = 0
  · obtain ⟨h1, h2, h3, h4, h5⟩ := tidy_sound name ar rows hf
    rw [h5] at h
    split at h
    · cases h
    · cases h; rfl
  · have := tidy_fault name ar rows hf
    rw [this] at h
    injection h with e1 _
    exact absurd e1 hf
theorem tidyNat {name : List UInt8} {ar : Int} {rows L : List (List (List UInt8))} {ti : Nat} (h : tidy name ar rows = (0, ti, L)) : ∃ n : Nat, ar = (n : Int) := by
  by_cases hf : (faultOf name ar rows).1 = 0
  · obtain ⟨h1, h2, h3, h4, h5⟩ := tidy_sound name ar rows hf
    exact ⟨ar.toNat, by omega⟩
  · have := tidy_fault name ar rows hf
    rw [this] at h
    injection h with e1 _
    exact absurd e1 hf
set_option maxHeartbeats 4000000 in
theorem askRows_walk (name : ByteArray) (ar : Int) (rv : Value) (vs : List Value) (rows : List (List (List UInt8))) (L T M : Addr) (w : World) (h : Rows2 w rv vs rows) (hE : Errs w L T M) (hB : ErrB w L T M) (hgt : gTop ≤ w.heap.size) (hn : name.size ≤ 1048576) (hrl : rows.length ≤ 1048576) (hrr : ∀ r ∈ rows, r.length ≤ 1048576) :
    Calls Tryz.prog 3 #[.agg #[.string name, .int .i64 ar, rv]] w fun e w' => e = .returned (.bool true) ∧ Below w.heap.size w w' := by
  have HH := hide h
  have HE := hide hE
  have HB := hide hB
  have HRR := hide hrr
  obtain ⟨⟨a, cap, hrv, _⟩, _, _⟩ := h
  obtain ⟨m, HM⟩ : ∃ m, Hid (m = vs.length) := ⟨_, rfl⟩
  rw [← HM.out] at hrv
  rw [hrv]
  obtain ⟨wR, HWR⟩ : ∃ wR, Hid (wR = w.alloc (.cells #[.string name, .int .i64 ar, .slice a m cap] 24)) := ⟨_, rfl⟩
  have hwR := HWR.out.symm
  have HGR : Hid (w.grownBy wR none) := by rw [HWR.out]; exact fr_alloc _ _ _
  have hpR : wR.heap[w.heap.size]? = some (.cells #[.string name, .int .i64 ar, .slice a m cap] 24 (0, 0)) := by rw [HWR.out]; exact heap_alloc_new _ _
  have HPR := hide hpR
  have r0 : wR.cell? ⟨w.heap.size, 0, none⟩ = some (.string name) := cell_of hpR 0 _ rfl
  have r1 : wR.cell? ⟨w.heap.size, 1, none⟩ = some (.int .i64 ar) := cell_of hpR 1 _ rfl
  have r2 : wR.cell? ⟨w.heap.size, 2, none⟩ = some (.slice a m cap) := cell_of hpR 2 _ rfl
  have HRT := rtidy_any name ar rv vs rows wR (HH.out.kept (below_fresh HGR.out)) (by omega) (by omega) (fun r hr => by have := hrr r hr; omega)
  rw [hrv] at HRT
  have HRT' := hide HRT
  clear HRT hpR hE hB hrr
  go_enter Tryz.func3, Tryz.ntmps3
  go_wp2_with fail
  refine HRT'.out.mono ?_
  rintro e w1 ⟨htd, hb1⟩
  have hg1 : wR.grownBy w1 none := fresh_below hb1
  have HG1 := hide hg1
  obtain ⟨te, ti, tl, HTD⟩ : ∃ te ti tl, Hid (tidy name.data.toList ar rows = (te, ti, tl)) := ⟨_, _, _, rfl⟩
  rw [HTD.out] at htd
  have hf1 := FrS.none (S := fun _ => False) hg1
  replace r0 := hf1.cell r0 (fun h => h)
  replace r1 := hf1.cell r1 (fun h => h)
  replace r2 := hf1.cell r2 (fun h => h)
  have HB1 := hide hb1
  clear hg1 hb1 hf1 HRT'
  obtain ⟨tn, tar, ta, tm, tc, he, HTT⟩ : ∃ (tn : ByteArray) (tar : Int) (ta : Option Addr) (tm tc : Nat), e = .returned (.tuple #[.agg #[.string tn, .int .i64 tar, .slice ta tm tc], .int .i64 (te : Nat), .int .i64 (ti : Nat)]) ∧ Hid (te = 0 → ∃ us, Rows2 w1 (.slice ta tm tc) us tl) := by
    unfold Tidied at htd
    by_cases hte : te = 0
    · rw [if_pos hte] at htd
      obtain ⟨v, us, rfl, ho, hl, hs⟩ := htd
      obtain ⟨ta, tc, rfl⟩ := own_shape' ho
      exact ⟨_, _, ta, _, tc, by rw [hte, tidy_ti hte HTD.out]; rfl, fun _ => ⟨us, own_vals ho, hl, fun i x r hx hr => (hs i x r hx hr).kept HB1.out⟩⟩
    · rw [if_neg hte] at htd
      exact ⟨_, _, _, _, _, htd, fun h => absurd h hte⟩
  subst he
  obtain ⟨wT, HWT⟩ : ∃ wT, Hid (wT = w1.alloc (.cells #[.string tn, .int .i64 tar, .slice ta tm tc] 24)) := ⟨_, rfl⟩
  have hwT := HWT.out.symm
  have HGT : Hid (w1.grownBy wT none) := by rw [HWT.out]; exact fr_alloc _ _ _
  have hpT : wT.heap[w1.heap.size]? = some (.cells #[.string tn, .int .i64 tar, .slice ta tm tc] 24 (0, 0)) := by rw [HWT.out]; exact heap_alloc_new _ _
  have HPT := hide hpT
  have hfT := FrS.none (S := fun _ => False) HGT.out
  replace r0 := hfT.cell r0 (fun h => h)
  replace r1 := hfT.cell r1 (fun h => h)
  replace r2 := hfT.cell r2 (fun h => h)
  clear hpT hfT htd
  have hnl : name.data.toList.length = name.size := by simp
  go_wp2_with fail
  go_loopw [6, 7] (fun qv iv wr => ∃ i : Nat, i ≤ 8 ∧ (i = 0 ∨ (i : Int) ≤ ar) ∧ iv = .int .i64 i ∧ qv = .string (str (name.data.toList ++ colsF i)) ∧ Hid (wT.grownBy wr none)) (fun _ iv _ => 8 - (intOf iv).toNat)
  case atStart => exact ⟨0, by omega, .inl rfl, rfl, by show Value.string name = _; simp [colsF, str], fr_refl _ _⟩
  case round =>
    obtain ⟨i, hi8, hia, rfl, rfl, HG⟩ := hrel
    have hf := FrS.none (S := fun _ => False) HG.out
    have s0 := hf.cell r0 (fun h => h)
    have s1 := hf.cell r1 (fun h => h)
    have s2 := hf.cell r2 (fun h => h)
    obtain ⟨qs, HQS⟩ : ∃ qs, Hid (qs = str (name.data.toList ++ colsF i)) := ⟨_, rfl⟩
    have hqs : qs.size ≤ 1048616 := by rw [HQS.out, str_size, List.length_append]; have := colsF_len i hi8; omega
    rw [← HQS.out]
    clear hf
    by_cases hlt : (i : Int) < ar ∧ i < 8
    · obtain ⟨hl1, hl2⟩ := hlt
      have HDC := hide (decimal_any i hl2 wr)
      obtain ⟨ds, HDS⟩ : ∃ ds, Hid (ds = str [UInt8.ofNat (48 + i)]) := ⟨_, rfl⟩
      have hds : ds.size = 1 := by rw [HDS.out, str_size]; rfl
      rw [← HDS.out] at HDC
      have hi8' : (i : Int) < 8 := by omega
      go_wp2_with fail
      refine HDC.out.mono ?_
      rintro _ w3 ⟨rfl, hg3⟩
      have HG3 : Hid (wT.grownBy w3 none) := fr_both HG.out hg3
      clear hg3
      by_cases hi0 : i = 0
      · have HNX : Hid (qs ++ { data := #[40, 86] } ++ ds = str (name.data.toList ++ colsF (i + 1))) := by
          show _ = _
          rw [HQS.out, HDS.out, show ({ data := #[40, 86] } : ByteArray) = str [40, 86] from rfl, str_app, str_app, hi0]
          simp [colsF]
        have hz : ((i : Int) == 0) = true := by simp [hi0]
        have hz2 : (i : Int) = 0 := by omega
        go_wp2
        exact ⟨⟨i + 1, by omega, .inr (by omega), by rw [hi0]; rfl, by rw [HNX.out], HG3⟩, by simp [intOf]; omega⟩
      · have HNX : Hid (qs ++ { data := #[44, 32, 86] } ++ ds = str (name.data.toList ++ colsF (i + 1))) := by
          show _ = _
          rw [HQS.out, HDS.out, show ({ data := #[44, 32, 86] } : ByteArray) = str [44, 32, 86] from rfl, str_app, str_app, colsF_next i (by omega)]
          simp
        have hz : ((i : Int) == 0) = false := by simp [hi0]
        have hz2 : ¬ (i : Int) = 0 := by omega
        go_wp2
        exact ⟨⟨i + 1, by omega, .inr (by omega), rfl, by rw [HNX.out], HG3⟩, by simp [intOf]; omega⟩
    · have HGWr : Hid (w.grownBy wr none) := fr_both HGR.out (fr_both HG1.out (fr_both HGT.out HG.out))
      by_cases hte : te = 0
      · subst hte
        obtain ⟨n, hnar⟩ := tidyNat HTD.out
        subst hnar
        obtain ⟨hin, hn8, hrw, hti, htl, hlen⟩ := tidyOK HTD.out
        subst hti htl
        have hnm : name.data.toList.length ≤ 1000 := by
          have := ask_len name.data.toList hin 0 (by omega)
          rw [ask_text] at this
          simp at this
          simp; omega
        obtain rfl : i = n := by omega
        have HOK := hide (And.intro hin (And.intro hrw hlen))
        obtain ⟨us, hus⟩ := HTT.out rfl
        have HUS := hide hus
        clear hrw hlen hus hlt hia
        have hl1 : ¬ (i : Int) < (i : Int) := by omega
        have hcase : (¬ 0 < (i : Int) ∧ Hid (i = 0)) ∨ (0 < (i : Int) ∧ Hid (¬ i = 0)) := by
          by_cases h : i = 0
          · exact .inl ⟨by omega, h⟩
          · exact .inr ⟨by omega, h⟩
        have HRE : Hid (Calls Tryz.prog 7 #[.agg #[.string name, .int .i64 (i : Nat), .slice a m cap]] wr fun e w' => ∃ xa xn xc xs, e = .returned (.agg #[.string name, .int .i64 (i : Nat), .slice xa xn xc]) ∧ Hid (Rows2 w' (.slice xa xn xc) xs rows ∧ wr.grownBy w' none)) := by
          have h1 := relation_any name (i : Nat) rv vs rows wr (HH.out.kept (below_fresh HGWr.out)) (by omega) (fun r hr => by have := HRR.out r hr; omega)
          rw [hrv] at h1
          refine h1.mono ?_
          rintro e w' ⟨⟨v, xs, rfl, hd⟩, hb⟩
          obtain ⟨xa, xc, rfl⟩ := own_shape' hd.1
          exact ⟨xa, _, xc, xs, rfl, hd.rows, fresh_below hb⟩
        have hname : str name.data.toList = name := by simp [str]
        have HASK : Hid (∀ (q2 : ByteArray) (w4 : World) (xa : Option Addr) (xn xc : Nat) (xs : List Value) (w5 : World), Hid (q2.data.toList = partTextF (askP name.data.toList i) ++ [46]) → Hid (Rows2 w4 (.slice xa xn xc) xs rows ∧ wr.grownBy w4 none) → Hid (w5 = w4.alloc (.cells #[.string name, .int .i64 (i : Nat), .slice xa xn xc] 32)) →
            Calls Tryz.prog 6 #[.string q2, .slice (some ⟨w4.heap.size, 0, none⟩) 1 1] w5 fun e w' => ∃ va vc la ln lc us', e = .returned (.tuple #[.slice va i vc, .slice la ln lc, .int .i64 0, .int .i64 0]) ∧ Hid (Rows2 w' (.slice la ln lc) us' (sortU rows)) ∧ Hid (w5.grownBy w' none)) := by
          intro q2 w4 xa xn xc xs w5 hq hx4 hw5
          have hgw4 := fr_both HGWr.out hx4.out.2
          have hg45 : w4.grownBy w5 none := by rw [hw5.out]; exact fr_alloc _ _ _
          have hgw5 := fr_both hgw4 hg45
          have hown : w5.ownsRow w4.heap.size 32 3 (.slice (some ⟨w4.heap.size, 0, none⟩) 1 1) 1 [.string (str name.data.toList), .int .i64 (i : Nat), .slice xa xn xc] := by
            rw [hw5.out, hname]
            exact ⟨rfl, .inr ⟨w4.heap.size, 1, _, rfl, Nat.le_refl _, heap_alloc_new w4 _, Nat.le_refl _, by unfold maxLen; omega, rfl, rfl⟩⟩
          refine (ask_any w4.heap.size w4.heap.size 1 i name.data.toList q2 (.slice xa xn xc) xs rows L T M w5 (HE.out.fresh hgw5) (HB.out.below (below_fresh hgw5) (Nat.le_refl _)) (Nat.le_trans hgt hgw5.size) hq.out hown (hx4.out.1.kept (below_fresh hg45)) (by omega) (fun r hr => by have := HRR.out r hr; omega) hnm HTD.out).mono ?_
          rintro e w' ⟨⟨va, vc, v', us', rfl, hd⟩, hg⟩
          obtain ⟨la, lc, rfl⟩ := own_shape' hd.1
          exact ⟨va, vc, la, _, lc, us', rfl, hd.rows, hg⟩
        have HSAME : Hid (∀ (w6 : World) (la : Option Addr) (ln lc : Nat) (us' : List Value), Hid (Rows2 w6 (.slice la ln lc) us' (sortU rows)) → Hid (wT.grownBy w6 none) → Calls Tryz.prog 8 #[.slice la ln lc, .slice ta tm tc] w6 fun e w' => e = .returned (.bool true) ∧ Hid (w6.grownBy w' none) ∧ w'.cell? ⟨w.heap.size, 1, none⟩ = some (.int .i64 (i : Nat))) := by
          intro w6 la ln lc us' hr hg
          have hu : Rows2 w6 (.slice ta tm tc) us (sortU rows) := HUS.out.kept (below_fresh (fr_both HGT.out hg.out))
          obtain ⟨k1, k2, k3⟩ := HOK.out
          have hb : ∀ r ∈ sortU rows, r.length ≤ 1099511627776 := fun r hr => by
            have := (mem_sortU i rows (fun r hr => (k2 r hr).1) r).1 hr
            have := (k2 r this).1
            omega
          refine (sameRows_any _ _ us' us (sortU rows) (sortU rows) w6 hr.out hu (by omega) (by omega) hb hb).mono ?_
          rintro e w' ⟨rfl, kk, rfl⟩
          have hd := fr_draws w6 kk none
          exact ⟨by simp, hd, (FrS.none (S := fun _ => False) (fr_both hg.out hd)).cell r1 (fun h => h)⟩
        have HHN := hide hname
        clear hname
        rcases hcase with ⟨hp, HI⟩ | ⟨hp, HI⟩
        · have HTXT : Hid ((qs ++ ({ data := #[46] } : ByteArray)).data.toList = partTextF (askP name.data.toList i) ++ [46]) := by
            show _ = _
            rw [HQS.out, show ({ data := #[46] } : ByteArray) = str [46] from rfl, str_app, data_str, ask_text, if_neg (by rw [HI.out]; omega), List.append_nil]
          go_wp2_with fail
          refine HRE.out.mono ?_
          rintro _ w4 ⟨xa, xn, xc, xs, rfl, HX4⟩
          obtain ⟨w5, HW5⟩ : ∃ w5, Hid (w5 = w4.alloc (.cells #[.string name, .int .i64 (i : Nat), .slice xa xn xc] 32)) := ⟨_, rfl⟩
          have hw5 := HW5.out.symm
          have HAK := hide (HASK.out _ w4 xa xn xc xs w5 HTXT HX4 HW5)
          go_wp2_with fail
          refine HAK.out.mono ?_
          rintro _ w6 ⟨va, vc, la, ln, lc, us6, rfl, HR6, HG6⟩
          have hgT6 : wT.grownBy w6 none := fr_both HG.out (fr_both HX4.out.2 (fr_both (by rw [HW5.out]; exact fr_alloc _ _ none) HG6.out))
          have HGT6 := hide hgT6
          have t2 : w6.cell? ⟨w1.heap.size, 2, none⟩ = some (.slice ta tm tc) := (FrS.none (S := fun _ => False) hgT6).cell (cell_of HPT.out 2 _ rfl) (fun h => h)
          have f1 := (FrS.none (S := fun _ => False) hgT6).cell r1 (fun h => h)
          have HSM := hide (HSAME.out w6 la ln lc us6 HR6 HGT6)
          have HGW6 : Hid (w.grownBy w6 none) := fr_both HGR.out (fr_both HG1.out (fr_both HGT.out hgT6))
          clear hgT6
          go_wp2_with fail
          refine HSM.out.mono ?_
          rintro _ w7 ⟨rfl, HG7, f7⟩
          have HNU := hide (num_at 0 w7)
          go_wp2_with fail
          refine HNU.out.mono ?_
          rintro _ _ ⟨rfl, rfl⟩
          go_wp2
          go_ret
          exact ⟨by simp, below_fresh (fr_both HGW6.out HG7.out)⟩
        · have HTXT : Hid ((qs ++ ({ data := #[41] } : ByteArray) ++ ({ data := #[46] } : ByteArray)).data.toList = partTextF (askP name.data.toList i) ++ [46]) := by
            show _ = _
            rw [HQS.out, show ({ data := #[46] } : ByteArray) = str [46] from rfl, show ({ data := #[41] } : ByteArray) = str [41] from rfl, str_app, str_app, data_str, ask_text, if_pos (by have := HI.out; omega)]
            simp
          go_wp2_with fail
          refine HRE.out.mono ?_
          rintro _ w4 ⟨xa, xn, xc, xs, rfl, HX4⟩
          obtain ⟨w5, HW5⟩ : ∃ w5, Hid (w5 = w4.alloc (.cells #[.string name, .int .i64 (i : Nat), .slice xa xn xc] 32)) := ⟨_, rfl⟩
          have hw5 := HW5.out.symm
          have HAK := hide (HASK.out _ w4 xa xn xc xs w5 HTXT HX4 HW5)
          go_wp2_with fail
          refine HAK.out.mono ?_
          rintro _ w6 ⟨va, vc, la, ln, lc, us6, rfl, HR6, HG6⟩
          have hgT6 : wT.grownBy w6 none := fr_both HG.out (fr_both HX4.out.2 (fr_both (by rw [HW5.out]; exact fr_alloc _ _ none) HG6.out))
          have HGT6 := hide hgT6
          have t2 : w6.cell? ⟨w1.heap.size, 2, none⟩ = some (.slice ta tm tc) := (FrS.none (S := fun _ => False) hgT6).cell (cell_of HPT.out 2 _ rfl) (fun h => h)
          have f1 := (FrS.none (S := fun _ => False) hgT6).cell r1 (fun h => h)
          have HSM := hide (HSAME.out w6 la ln lc us6 HR6 HGT6)
          have HGW6 : Hid (w.grownBy w6 none) := fr_both HGR.out (fr_both HG1.out (fr_both HGT.out hgT6))
          clear hgT6
          go_wp2_with fail
          refine HSM.out.mono ?_
          rintro _ w7 ⟨rfl, HG7, f7⟩
          have HNU := hide (num_at 0 w7)
          go_wp2_with fail
          refine HNU.out.mono ?_
          rintro _ _ ⟨rfl, rfl⟩
          go_wp2
          go_ret
          exact ⟨by simp, below_fresh (fr_both HGW6.out HG7.out)⟩
      · have hne : ((te : Int) != 0) = true := by simp [hte]
        have hne2 : ¬ (te : Int) = 0 := by omega
        by_cases hl1 : (i : Int) < ar
        · have hl2 : ¬ (i : Int) < 8 := by omega
          have hp : 0 < ar := by omega
          go_wp2
          go_ret
          exact ⟨rfl, below_fresh HGWr.out⟩
        · by_cases hp : 0 < ar
          · go_wp2
            go_ret
            exact ⟨rfl, below_fresh HGWr.out⟩
          · go_wp2
            go_ret
            exact ⟨rfl, below_fresh HGWr.out⟩
end Go.Proofs.YtdfbjnachakkhaaGreatDoor
