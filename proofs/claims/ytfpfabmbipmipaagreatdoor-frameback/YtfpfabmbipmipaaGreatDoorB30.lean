/- Own text. -/
import Derived.Test.YtfpfabmbipmipaaGreatDoorB29
import Derived.Deep.Matrix
set_option linter.unusedSimpArgs false
set_option linter.unusedVariables false
set_option maxRecDepth 20000
set_option maxHeartbeats 12800000
namespace Go.Proofs.YtfpfabmbipmipaaGreatDoor
open Go.RowKit
structure RowsAt (w : World) (ao : OA) (xs : List (List Int)) : Prop where
 len : xs.length <= 5864062014805
 lies : 0 < xs.length -> ∃ b off, ao = some ⟨b, off, none⟩ /\ ∀ i, i < xs.length -> ∃ a c, w.cell? ⟨b, off + i, none⟩ = some (.slice a (xs.getD i []).length c) /\ (xs.getD i []).length <= c /\ (a = none -> c = 0) /\ IntsAt w a (xs.getD i [])
theorem RowsAt.below {w w' : World} {ao : OA} {xs : List (List Int)} (h : RowsAt w ao xs) (hb : Lo w w') : RowsAt w' ao xs := by
 refine ⟨h.len, fun h0 => ?_⟩
 obtain ⟨b, off, e, hc⟩ := h.lies h0
 refine ⟨b, off, e, fun i hi => ?_⟩
 obtain ⟨a, c, h1, h2, h3, h4⟩ := hc i hi
 exact ⟨a, c, by rw [World.cell?_of_block (w := w) (hb.block _ (lt_cell h1))]; exact h1, h2, h3, h4.below hb⟩
theorem planes_same (xs : List (List Int)) (ao bo : OA) (ac bc : Nat) (w : World) (h1 : RowsAt w ao xs) (h2 : RowsAt w bo xs) : Calls Tryz.prog 15 #[.slice ao xs.length ac, .slice bo xs.length bc] w fun e w' => e = .returned (.bool true) /\ Lo w w' := by
 have hl := h1.len
 have H1 := kQ h1
 have H2 := kQ h2
 clear h1 h2
 go_enter Tryz.func15, Tryz.ntmps15
 go_wp2_with fail
 go_loopw [5] (fun s5 wr => ∃ i : Nat, i <= xs.length /\ s5 = .int .i64 (i : Int) /\ Lo w wr) (fun s5 _ => xs.length - (intOf s5).toNat)
 case atStart => exact ⟨0, Nat.zero_le _, rfl, Below.refl _ _⟩
 case round =>
  obtain ⟨i, hi, rfl, hb⟩ := hrel
  by_cases hlt : i < xs.length
  ·obtain ⟨b1, o1, rfl, q1⟩ := H1.out.lies (by omega)
   obtain ⟨b2, o2, rfl, q2⟩ := H2.out.lies (by omega)
   obtain ⟨a1, c1, m1, m2, m3, m4⟩ := q1 i hlt
   obtain ⟨a2, c2, n1, n2, n3, n4⟩ := q2 i hlt
   have HC1 : Hid (∀ wx, Lo w wx -> wx.cell? ⟨b1, o1 + i, none⟩ = some (.slice a1 (xs.getD i []).length c1)) := fun wx hh => by rw [World.cell?_of_block (w := w) (hh.block _ (lt_cell m1))]; exact m1
   have HC2 : Hid (∀ wx, Lo w wx -> wx.cell? ⟨b2, o2 + i, none⟩ = some (.slice a2 (xs.getD i []).length c2)) := fun wx hh => by rw [World.cell?_of_block (w := w) (hh.block _ (lt_cell n1))]; exact n1
   have HK : Hid (∀ wx, Lo w wx -> Calls Tryz.prog 55 #[.slice a1 (xs.getD i []).length c1, .slice a2 (xs.getD i []).length c2] wx fun e w' => e = .returned (.bool true) /\ ∃ n, w' = wx.drewN n) := fun wx hh => ints_same (xs.getD i []) a1 a2 c1 c2 wx (m4.below hh) (n4.below hh)
   have HD : Hid (Lo w wr.drew) := hb.trans dQ
   clear q1 q2 m1 m2 m3 m4 n1 n2 n3 n4 hb
   generalize xs.getD i [] = l at *
   go_wp2_with fail
   refine wp_region_held_drew (S := fun wx => Lo w wx) (by kernel_rfl) HD.out (fun hS => ?_)
   refine vQ 0 (.slice (some ⟨b1, o1, none⟩) xs.length ac) hS ?_
   simp only [SL]
   refine vQ 1 (.int .i64 (i : Int)) hS ?_
   simp only [SL]
   refine vQ 2 (.pointer (some ⟨b1, o1 + i, none⟩)) hS ?_
   simp only [SL]
   refine uQ 3 (.slice a1 l.length c1) rfl hS (Or.inl ⟨by rfl, fun w hSw => by have r1 := HC1.out w hSw; go_simp⟩) ?_
   simp only [SL]
   refine vQ 4 (.slice (some ⟨b2, o2, none⟩) xs.length bc) hS ?_
   simp only [SL]
   refine vQ 5 (.int .i64 (i : Int)) hS ?_
   simp only [SL]
   refine vQ 6 (.pointer (some ⟨b2, o2 + i, none⟩)) hS ?_
   simp only [SL]
   refine uQ 7 (.slice a2 l.length c2) rfl hS (Or.inl ⟨by rfl, fun w hSw => by have r2 := HC2.out w hSw; go_simp⟩) ?_
   simp only [SL]
   refine wpAnyH_ready (rs := [8]) (by kernel_rfl) (by simp) ?_
   refine AllReadyH.cons rfl (fun K hK => ?_) AllReadyH.nil
   go_simp
   refine (HK.out _ hS).mono ?_
   rintro e w3 ⟨rfl, n3, hw3⟩
   have HD3 : Hid (Lo w w3) := by rw [hw3]; exact hS.trans ((below_drewN _ _).mono hS.size)
   refine hK.out _ _ HD3.out (fun hS3 => ?_)
   clear hK K hw3
   try simp only [SL]
   refine vQ 9 (.bool false) hS3 ?_
   simp only [SL]
   refine wpAnyH_done (by kernel_rfl) ?_ _
   go_wp2_with fail
   go_roundw
   case rel => exact ⟨i + 1, by omega, by go_num, HD3.out⟩
   case measure => simp [intOf]; omega
  ·have HB := kQ hb
   clear hb
   go_wp2_with fail
   go_ret
   exact ⟨rfl, HB.out⟩
end Go.Proofs.YtfpfabmbipmipaaGreatDoor
namespace Go.Proofs.YtfpfabmbipmipaaGreatDoor
open Go.ChangeShapes Go.WideShapes Go.ChangeAt Go.RowKit Go.Deep
theorem acells4 : Tryz.prog.cellsOf 4 = 1 := by kernel_rfl
theorem acells9 : Tryz.prog.cellsOf 9 = 1 := by kernel_rfl
theorem acellsF : Tryz.prog.cellsOf 24 = 8 := by kernel_rfl
theorem acellsN : Tryz.prog.cellsOf 26 = 9 := by kernel_rfl
theorem abytesI : Tryz.prog.bytesOf 56 = 24 := by kernel_rfl
abbrev infV (a b c d : Int) (i : Inf) (e : Int) (s : ByteArray) : Value := .agg #[.int .i64 a, .int .i64 b, .int .i64 c, .int .i64 d, .int .i64 i.rate, .int .i64 i.ch, .int .i64 i.wd, .int .i64 e, .string s]
structure FmAt (w : World) (f : Fm) (so : OA) (sk : Nat) : Prop where
 S : SubsAt w so f.S
 sk_ : f.S.length <= sk /\ (so = none -> sk = 0)
 num : I64 f.num
 size : I64 f.size
 sc : I64 f.sc
 rc : I64 f.rc
 wc : I64 f.wc
 mo : I64 f.mo
section
variable {H : Type} {enc : TypeId × Value -> H} {w : World} {base base2 : Nat} {held : Bool}
theorem struct8 {P : Program} {t : TypeId} {f0 f1 f2 f3 f4 f5 f6 f7 : Field} {fuel : Nat} {cs : List Value} {x : DataW H × List MemPlace} {spare : Nat -> Bool} (ht : P.underlying t = some (.struct #[f0, f1, f2, f3, f4, f5, f6, f7])) (h : DataW.trod enc P w base spare held fuel t cs = some x) :
  ∃ y0 y1 y2 y3 y4 y5 y6 y7 n, x.1 = .agg [y0.1, y1.1, y2.1, y3.1, y4.1, y5.1, y6.1, y7.1] /\ cs.length = P.cellsOf t /\ DataW.trod enc P w base spare held n f0.type ((cs.drop f0.offset).take (P.cellsOf f0.type)) = some y0 /\ DataW.trod enc P w base spare held n f1.type ((cs.drop f1.offset).take (P.cellsOf f1.type)) = some y1 /\ DataW.trod enc P w base spare held n f2.type ((cs.drop f2.offset).take (P.cellsOf f2.type)) = some y2 /\ DataW.trod enc P w base spare held n f3.type ((cs.drop f3.offset).take (P.cellsOf f3.type)) = some y3 /\ DataW.trod enc P w base spare held n f4.type ((cs.drop f4.offset).take (P.cellsOf f4.type)) = some y4 /\ DataW.trod enc P w base spare held n f5.type ((cs.drop f5.offset).take (P.cellsOf f5.type)) = some y5 /\ DataW.trod enc P w base spare held n f6.type ((cs.drop f6.offset).take (P.cellsOf f6.type)) = some y6 /\ DataW.trod enc P w base spare held n f7.type ((cs.drop f7.offset).take (P.cellsOf f7.type)) = some y7 := by
 obtain ⟨xs, n, _, rfl, hl, hlen, hf⟩ := DataW.trod_struct ht h
 match xs, hlen with
 | [y0, y1, y2, y3, y4, y5, y6, y7], _ => exact ⟨y0, y1, y2, y3, y4, y5, y6, y7, n, by simp, hl, by simpa using hf 0 f0 rfl, by simpa using hf 1 f1 rfl, by simpa using hf 2 f2 rfl, by simpa using hf 3 f3 rfl, by simpa using hf 4 f4 rfl, by simpa using hf 5 f5 rfl, by simpa using hf 6 f6 rfl, by simpa using hf 7 f7 rfl⟩
theorem struct9 {P : Program} {t : TypeId} {f0 f1 f2 f3 f4 f5 f6 f7 f8 : Field} {fuel : Nat} {cs : List Value} {x : DataW H × List MemPlace} {spare : Nat -> Bool} (ht : P.underlying t = some (.struct #[f0, f1, f2, f3, f4, f5, f6, f7, f8])) (h : DataW.trod enc P w base spare held fuel t cs = some x) :
  ∃ y0 y1 y2 y3 y4 y5 y6 y7 y8 n, x.1 = .agg [y0.1, y1.1, y2.1, y3.1, y4.1, y5.1, y6.1, y7.1, y8.1] /\ cs.length = P.cellsOf t /\ DataW.trod enc P w base spare held n f0.type ((cs.drop f0.offset).take (P.cellsOf f0.type)) = some y0 /\ DataW.trod enc P w base spare held n f1.type ((cs.drop f1.offset).take (P.cellsOf f1.type)) = some y1 /\ DataW.trod enc P w base spare held n f2.type ((cs.drop f2.offset).take (P.cellsOf f2.type)) = some y2 /\ DataW.trod enc P w base spare held n f3.type ((cs.drop f3.offset).take (P.cellsOf f3.type)) = some y3 /\ DataW.trod enc P w base spare held n f4.type ((cs.drop f4.offset).take (P.cellsOf f4.type)) = some y4 /\ DataW.trod enc P w base spare held n f5.type ((cs.drop f5.offset).take (P.cellsOf f5.type)) = some y5 /\ DataW.trod enc P w base spare held n f6.type ((cs.drop f6.offset).take (P.cellsOf f6.type)) = some y6 /\ DataW.trod enc P w base spare held n f7.type ((cs.drop f7.offset).take (P.cellsOf f7.type)) = some y7 /\ DataW.trod enc P w base spare held n f8.type ((cs.drop f8.offset).take (P.cellsOf f8.type)) = some y8 := by
 obtain ⟨xs, n, _, rfl, hl, hlen, hf⟩ := DataW.trod_struct ht h
 match xs, hlen with
 | [y0, y1, y2, y3, y4, y5, y6, y7, y8], _ => exact ⟨y0, y1, y2, y3, y4, y5, y6, y7, y8, n, by simp, hl, by simpa using hf 0 f0 rfl, by simpa using hf 1 f1 rfl, by simpa using hf 2 f2 rfl, by simpa using hf 3 f3 rfl, by simpa using hf 4 f4 rfl, by simpa using hf 5 f5 rfl, by simpa using hf 6 f6 rfl, by simpa using hf 7 f7 rfl, by simpa using hf 8 f8 rfl⟩
theorem open_frame {r : Reach} {v : Value} {d : DataW H} {q : List MemPlace} (hv : Value.okWide Tryz.prog w r base2 24 v) (h : DataW.Trod enc Tryz.prog w base (fun _ => true) held 24 v d q) (hw : ∀ n ∈ d.weights Tryz.prog 24, n <= reachBytes) :
  ∃ (f : Fm) (so : OA) (sk : Nat), v = fmV f so sk /\ FmAt w f so sk := by
 obtain ⟨cs, rfl, hs⟩ := okWide_struct Tryz.underlying24 hv
 obtain ⟨fuel, hf⟩ := h
 obtain ⟨y0, y1, y2, y3, y4, y5, y6, y7, m, hd, hl, h0, h1, h2, h3, h4, h5, h6, h7⟩ := struct8 Tryz.underlying24 hf
 rw [acellsF] at hl
 obtain ⟨z0, e0, _⟩ := DataW.trod_bool Tryz.underlying4 h0
 obtain ⟨z1, e1, _, q1⟩ := DataW.trod_int Tryz.underlying3 h1
 obtain ⟨z2, e2, _, q2⟩ := DataW.trod_int Tryz.underlying3 h2
 obtain ⟨z3, e3, _, q3⟩ := DataW.trod_int Tryz.underlying3 h3
 obtain ⟨z4, e4, _, q4⟩ := DataW.trod_int Tryz.underlying3 h4
 obtain ⟨z5, e5, _, q5⟩ := DataW.trod_int Tryz.underlying3 h5
 obtain ⟨z6, e6, _, q6⟩ := DataW.trod_int Tryz.underlying3 h6
 have hd' : d = .agg [y0.1, y1.1, y2.1, y3.1, y4.1, y5.1, y6.1, y7.1] := hd
 have hw7 : ∀ n ∈ y7.1.weights Tryz.prog 22, n <= reachBytes := fun n hn => by
  apply hw
  rw [hd']
  simp only [DataW.weights, Tryz.underlying24, List.map_cons, List.map_nil, DataW.weightsEach, List.toList_toArray]
  simp only [List.mem_append]
  exact .inr (.inr (.inr (.inr (.inr (.inr (.inr (.inl hn)))))))
 obtain ⟨so, sk, S, hS, iS, c1⟩ := open_subs h7 hw7
 obtain ⟨cl⟩ := cs
 match cl, hl with
 | [k0, k1, k2, k3, k4, k5, k6, k7], _ =>
  simp [acells4, Value.cells] at e0
  simp [acells3, Value.cells] at e1 e2 e3 e4 e5 e6
  simp [acellsB, Value.cells] at hS
  subst e0 e1 e2 e3 e4 e5 e6 hS
  exact ⟨⟨z0, z1, z2, z3, z4, z5, z6, S⟩, so, sk, rfl, ⟨iS, c1, bounds_i64 q1, bounds_i64 q2, bounds_i64 q3, bounds_i64 q4, bounds_i64 q5, bounds_i64 q6⟩⟩
theorem open_info {r : Reach} {v : Value} {d : DataW H} {q : List MemPlace} (hv : Value.okWide Tryz.prog w r base2 26 v) (h : DataW.Trod enc Tryz.prog w base (fun _ => true) held 26 v d q) :
  ∃ (a b c d : Int) (i : Inf) (e : Int) (s : ByteArray), v = infV a b c d i e s /\ I64 i.rate /\ I64 i.ch /\ I64 i.wd := by
 obtain ⟨cs, rfl, hs⟩ := okWide_struct Tryz.underlying26 hv
 obtain ⟨fuel, hf⟩ := h
 obtain ⟨y0, y1, y2, y3, y4, y5, y6, y7, y8, m, hd, hl, h0, h1, h2, h3, h4, h5, h6, h7, h8⟩ := struct9 Tryz.underlying26 hf
 rw [acellsN] at hl
 obtain ⟨z0, e0, _, q0⟩ := DataW.trod_int Tryz.underlying3 h0
 obtain ⟨z1, e1, _, q1⟩ := DataW.trod_int Tryz.underlying3 h1
 obtain ⟨z2, e2, _, q2⟩ := DataW.trod_int Tryz.underlying3 h2
 obtain ⟨z3, e3, _, q3⟩ := DataW.trod_int Tryz.underlying3 h3
 obtain ⟨z4, e4, _, q4⟩ := DataW.trod_int Tryz.underlying3 h4
 obtain ⟨z5, e5, _, q5⟩ := DataW.trod_int Tryz.underlying3 h5
 obtain ⟨z6, e6, _, q6⟩ := DataW.trod_int Tryz.underlying3 h6
 obtain ⟨z7, e7, _, q7⟩ := DataW.trod_int Tryz.underlying3 h7
 obtain ⟨z8, e8, _⟩ := DataW.trod_string Tryz.underlying9 h8
 obtain ⟨cl⟩ := cs
 match cl, hl with
 | [k0, k1, k2, k3, k4, k5, k6, k7, k8], _ =>
  simp [acells3, Value.cells] at e0 e1 e2 e3 e4 e5 e6 e7
  simp [acells9, Value.cells] at e8
  subst e0 e1 e2 e3 e4 e5 e6 e7 e8
  exact ⟨z0, z1, z2, z3, ⟨z4, z5, z6⟩, z7, z8, rfl, bounds_i64 q4, bounds_i64 q5, bounds_i64 q6⟩
theorem open_planes {fuel : Nat} {cs : List Value} {x : DataW H × List MemPlace} (h : DataW.trod enc Tryz.prog w base (fun _ => true) held fuel 27 cs = some x) (hw : ∀ n ∈ x.1.weights Tryz.prog 27, n <= reachBytes) :
  ∃ (ao : OA) (cap : Nat) (xs : List (List Int)), cs = [.slice ao xs.length cap] /\ RowsAt w ao xs := by
 rcases open_int_rows Tryz.underlying27 Tryz.underlying56 Tryz.underlying3 acellsI acells3 h with ⟨rfl, rfl⟩ | ⟨a, len, cap, A, L, C, Z, rfl, _, hl, hm, hx, hrow⟩
 ·exact ⟨none, 0, [], rfl, ⟨by simp, fun h => by simp at h⟩⟩
 ·have hlen : ((List.range len).map fun r => (Z r).take (L r)).length = len := by simp
  have hget : ∀ i, i < len -> ((List.range len).map fun r => (Z r).take (L r)).getD i [] = (Z i).take (L i) := fun i hi => by simp [List.getD_eq_getElem?_getD, hi]
  rw [hx] at hw
  simp only [DataW.weights, Tryz.underlying27] at hw
  have hcap : cap * 24 <= reachBytes := by
   have := hw _ (List.mem_cons_self)
   rw [abytesI] at this
   simp only [List.length_map, List.length_range] at this
   have e : len + (cap - len) = cap := by omega
   rwa [e] at this
  simp only [reachBytes] at hcap
  refine ⟨some a, cap, (List.range len).map fun r => (Z r).take (L r), by rw [hlen], ⟨by rw [hlen]; omega, fun h0 => ?_⟩⟩
  rw [hlen] at h0
  obtain ⟨b, off, rfl⟩ := at_spot (hrow 0 (by omega)).1
  refine ⟨b, off, rfl, fun i hi => ?_⟩
  rw [hlen] at hi
  rw [hget i hi]
  obtain ⟨h1, h2, h3, h4, h5, h6, h7⟩ := hrow i (by omega)
  have hL : ((Z i).take (L i)).length = L i := by rw [List.length_take]; omega
  rw [hL]
  rw [add_plain] at h1
  have hC : C i * 8 <= reachBytes := by
   cases hA : A i with
   | none =>
    rw [h6 hA]
    exact Nat.zero_le _
   | some a' =>
    have hmem : intRow (H := H) .i64 (A i) (L i) (Z i) ∈ (List.range len).map fun r => intRow (H := H) .i64 (A r) (L r) (Z r) := List.mem_map.2 ⟨i, List.mem_range.2 hi, rfl⟩
    have hwt : C i * 8 ∈ (intRow (H := H) .i64 (A i) (L i) (Z i)).weights Tryz.prog 56 := by
     rw [hA]
     simp only [intRow, DataW.weights, Tryz.underlying56]
     rw [abytes3]
     have e : (lits (H := H) .i64 ((Z i).take (L i))).length + (lits (H := H) .i64 ((Z i).drop (L i))).length = C i := by
      simp only [lits, List.length_map, List.length_take, List.length_drop]
      omega
     rw [e]
     exact List.mem_cons_self
    exact hw _ (List.mem_cons.2 (.inr (List.mem_append.2 (.inl (weights_all _ _ _ _ hmem _ hwt)))))
  simp only [reachBytes] at hC
  refine ⟨A i, C i, h1, h2, h6, ⟨by rw [hL]; omega, fun n hn => bounds_i64 (h5 n (List.mem_of_mem_take hn)), fun h0' => ?_⟩⟩
  rw [hL] at h0'
  cases hA : A i with
  | none =>
   have := h6 hA
   omega
  | some a' =>
   obtain ⟨_, h8⟩ := h7 a' hA
   obtain ⟨b', off', rfl⟩ := at_spot (h8 0 (by omega))
   refine ⟨b', off', rfl, fun j hj => ?_⟩
   rw [hL] at hj
   have h9 := h8 j (by omega)
   rw [add_plain] at h9
   rw [h9]
   congr 2
   rw [List.getD_eq_getElem?_getD, List.getD_eq_getElem?_getD, List.getElem?_take, if_pos hj]
theorem open_rows {r : Reach} {v : Value} {d : DataW H} {q : List MemPlace} (hv : Value.okWide Tryz.prog w r base2 27 v) (h : DataW.Trod enc Tryz.prog w base (fun _ => true) held 27 v d q) (hw : ∀ n ∈ d.weights Tryz.prog 27, n <= reachBytes) :
  ∃ (ao : OA) (cap : Nat) (xs : List (List Int)), v = .slice ao xs.length cap /\ RowsAt w ao xs := by
 obtain ⟨ao, len, cap, rfl⟩ := okWide_slice Tryz.underlying27 hv
 obtain ⟨fuel, hf⟩ := h
 obtain ⟨ao2, cap2, xs, hc, h2⟩ := open_planes hf hw
 have e : (Value.slice ao len cap) = .slice ao2 xs.length cap2 := by
  have : ([Value.slice ao len cap] : List Value) = [.slice ao2 xs.length cap2] := hc
  injection this
 exact ⟨ao2, cap2, xs, e, h2⟩
end
end Go.Proofs.YtfpfabmbipmipaaGreatDoor
namespace Go.Proofs.YtfpfabmbipmipaaGreatDoor
open Go.RowKit
abbrev infC (a b c d : Int) (i : Inf) (e : Int) (s : ByteArray) : Array Value := #[.int .i64 a, .int .i64 b, .int .i64 c, .int .i64 d, .int .i64 i.rate, .int .i64 i.ch, .int .i64 i.wd, .int .i64 e, .string s]
theorem inf_cells {w : World} {g : Nat} {a b c d : Int} {i : Inf} {e : Int} {s : ByteArray} (h : w.heap[g]? = some (.cells (infC a b c d i e s) 26 (0, 0))) :
  w.cell? ⟨g, 0, none⟩ = some (.int .i64 a) /\ w.cell? ⟨g, 1, none⟩ = some (.int .i64 b) /\ w.cell? ⟨g, 2, none⟩ = some (.int .i64 c) /\ w.cell? ⟨g, 3, none⟩ = some (.int .i64 d) /\ w.cell? ⟨g, 4, none⟩ = some (.int .i64 i.rate) /\ w.cell? ⟨g, 5, none⟩ = some (.int .i64 i.ch) /\ w.cell? ⟨g, 6, none⟩ = some (.int .i64 i.wd) /\ w.cell? ⟨g, 7, none⟩ = some (.int .i64 e) /\ w.cell? ⟨g, 8, none⟩ = some (.string s) := by
 refine ⟨?_, ?_, ?_, ?_, ?_, ?_, ?_, ?_, ?_⟩ <;> (rw [cell_of_row _ _ _ _ _ _ h]; rfl)
structure FX (w : World) (f : Fm) (so : OA) (sk : Nat) (a b c d : Int) (i : Inf) (e : Int) (s : ByteArray) (wx : World) : Prop where
 fb : wx.heap[w.heap.size]? = some (.cells (fmC f so sk) 24 (0, 0))
 ib : wx.heap[w.heap.size + 1]? = some (.cells (infC a b c d i e s) 26 (0, 0))
 below : Lo w wx
section
variable {w wx w' : World} {f : Fm} {so : OA} {sk : Nat} {a b c d : Int} {i : Inf} {e : Int} {s : ByteArray}
theorem FX.new (w : World) (f : Fm) (so : OA) (sk : Nat) (a b c d : Int) (i : Inf) (e : Int) (s : ByteArray) : FX w f so sk a b c d i e s ((w.alloc (.cells (fmC f so sk) 24)).alloc (.cells (infC a b c d i e s) 26)) := by
 refine ⟨heap_two _ _ _, ?_, aQ.alloc (by simp) _⟩
 have hh := heap_alloc_new (w.alloc (.cells (fmC f so sk) 24)) (.cells (infC a b c d i e s) 26)
 rw [show (w.alloc (.cells (fmC f so sk) 24)).heap.size = w.heap.size + 1 from by simp] at hh
 exact hh
theorem FX.next (h : FX w f so sk a b c d i e s wx) (hb : Lo wx w') : FX w f so sk a b c d i e s w' :=
 ⟨by rw [hb.block _ (lt_of_block h.fb)]; exact h.fb, by rw [hb.block _ (lt_of_block h.ib)]; exact h.ib, h.below.trans (hb.mono h.below.size)⟩
theorem FX.drew (h : FX w f so sk a b c d i e s wx) : FX w f so sk a b c d i e s wx.drew := h.next dQ
end
theorem siz_eq (c : Int) (h : 0 <= c /\ c < 16) : sizT.getD c.toNat 0 = sizN c := by
 obtain ⟨n, rfl⟩ : ∃ n : Nat, c = n := ⟨c.toNat, by omega⟩
 have hall : ∀ n : Nat, n < 16 -> sizT.getD ((n : Int).toNat) 0 = sizN (n : Int) := by decide
 exact hall n (by omega)
theorem rat_eq (c : Int) (h : 0 <= c /\ c < 12) : ratT.getD c.toNat 0 = ratN c := by
 obtain ⟨n, rfl⟩ : ∃ n : Nat, c = n := ⟨c.toNat, by omega⟩
 have hall : ∀ n : Nat, n < 12 -> ratT.getD ((n : Int).toNat) 0 = ratN (n : Int) := by decide
 exact hall n (by omega)
theorem rat_15 : ratT.getD (15 : Int).toNat 0 = 0 := by decide
theorem wid_eq (c : Int) (h : 0 <= c /\ c < 8) : widT.getD c.toNat 0 = widN c := by
 obtain ⟨n, rfl⟩ : ∃ n : Nat, c = n := ⟨c.toNat, by omega⟩
 have hall : ∀ n : Nat, n < 8 -> widT.getD ((n : Int).toNat) 0 = widN (n : Int) := by decide
 exact hall n (by omega)
theorem wid_37 : widN 3 = 0 /\ widN 7 = 0 /\ sizN 0 = 0 /\ sizN 6 = 0 /\ sizN 7 = 0 := by decide
abbrev sayZ (c size : Int) : Prop := (1 <= c /\ c <= 15) /\ (sizN c = size ∨ (c = 6 /\ size <= 256) ∨ c = 7)
abbrev sayR (c r : Int) : Prop := c = 0 ∨ ((1 <= c /\ c <= 11) /\ ratN c = r) ∨ (c = 12 /\ r % 1000 = 0 /\ r <= 255000) ∨ (c = 13 /\ r <= 65535) ∨ (c = 14 /\ r % 10 = 0 /\ r <= 655350)
abbrev sayW (c v : Int) : Prop := c = 0 ∨ ((1 <= c /\ c <= 6) /\ ¬ c = 3 /\ widN c = v)
theorem f_sayZ (c size : Int) (hs : 1 <= size /\ size <= 4608) (bb : Bool) (hbb : bb = true ↔ sayZ c size) (w : World) (hL : Lay w) : Calls Tryz.prog 85 #[.int .i64 c, .int .i64 size] w fun e w' => e = .returned (.bool bb) /\ w' = w := by
 have kz := f_szb c
 have w37 := wid_37
 by_cases g : 0 <= c /\ c < 16
 focus
  have ki := f_isIn c 16 true (tt_iff g)
  have kS := f_sizS c (size - 1) g (by omega) w hL
  clear hL
  rcases szb_all c with ⟨g6, hz⟩ | ⟨g7, hz⟩ | ⟨g6, g7, hz⟩
  focus
   rw [hz] at kz
   by_cases h256 : size <= 256
   focus
    have kh := f_hold1 (size - 1) true (tt_iff (by omega))
    have hv : sizS c (size - 1) = size := by unfold sizS; rw [if_pos (.inl g6)]; omega
    rw [hv] at kS
    rw [bb_yes hbb ⟨by omega, .inr (.inl ⟨g6, h256⟩)⟩]
    clear hbb hv hz w37 g g6
   rotate_left
   focus
    have kh := f_hold1 (size - 1) false (ff_iff (by omega))
    rw [bb_no hbb (fun h => by rcases h.2 with h | h | h; (rw [g6, w37.2.2.2.1] at h; omega); omega; omega)]
    clear hbb hz w37 g kS g6
   rotate_left
  rotate_left 2
  focus
   rw [hz] at kz
   have kh := f_hold2 (size - 1) true (tt_iff (by omega))
   have hv : sizS c (size - 1) = size := by unfold sizS; rw [if_pos (.inr g7)]; omega
   rw [hv] at kS
   rw [bb_yes hbb ⟨by omega, .inr (.inr g7)⟩]
   clear hbb hv hz w37 g g7
  rotate_left
  focus
   rw [hz] at kz
   have kh := f_hold0 (size - 1)
   have hv : sizS c (size - 1) = sizN c := by unfold sizS; rw [if_neg (by omega), siz_eq c g]
   rw [hv] at kS
   by_cases he : sizN c = size
   focus
    have hbe : (sizN c == size) = true := by rw [beq_iff_eq]; exact he
    rw [bb_yes hbb ⟨⟨by
     rcases Int.lt_or_le c 1 with h | h
     ·have : c = 0 := by omega
      rw [this, w37.2.2.1] at he; omega
     ·exact h, by omega⟩, .inl he⟩]
    clear hbb hv hz w37 he
    generalize sizN c = v at *
   rotate_left
   focus
    have hbe : (sizN c == size) = false := by rw [beq_eq_false_iff_ne]; exact he
    rw [bb_no hbb (fun h => by rcases h.2 with h | h | h; exact he h; omega; omega)]
    clear hbb hv hz w37 he
    generalize sizN c = v at *
   rotate_left
  rotate_left 2
 rotate_left 5
 ·have ki := f_isIn c 16 false (ff_iff g)
  rw [bb_no hbb (fun h => g (by omega))]
  clear hbb w37 hL kz g
  go_enter Tryz.func85, Tryz.ntmps85
  go_wp2_with fail
  refine (ki _).mono ?_
  rintro e wc0 ⟨rfl, hwc0⟩
  subst hwc0
  go_wp2_with fail
  go_ret
  exact ⟨rfl, rfl⟩
 all_goals
  go_enter Tryz.func85, Tryz.ntmps85
  go_wp2_with fail
  refine (ki _).mono ?_
  rintro e wc0 ⟨rfl, hwc0⟩
  subst hwc0
  go_wp2_with fail
  refine (kz _).mono ?_
  rintro e wc1 ⟨rfl, hwc1⟩
  subst hwc1
  go_wp2_with fail
  refine (kh _).mono ?_
  rintro e wc2 ⟨rfl, hwc2⟩
  subst hwc2
  go_wp2_with fail
 rotate_left
 ·go_ret
  exact ⟨rfl, rfl⟩
 rotate_left 3
 all_goals
  refine kS.mono ?_
  rintro e wd ⟨rfl, hwd⟩
  subst hwd
  go_wp2_with fail
  go_ret
 ·exact ⟨by simp, rfl⟩
 ·exact ⟨by simp, rfl⟩
 ·exact ⟨rfl, rfl⟩
 ·exact ⟨rfl, rfl⟩
theorem f_sayR12 (c rate : Int) (hs : 1 <= rate /\ rate <= 9223372036854775807) (bb : Bool) (hbb : bb = true ↔ sayR c rate) (w : World) (hL : Lay w) (gc : c = 12) (hzu : rtb c = 1 /\ rtu c = 1000) : Calls Tryz.prog 86 #[.int .i64 c, .int .i64 rate] w fun e w' => e = .returned (.bool bb) /\ w' = w := by
 have kz := f_rtb c
 have ku := f_rtu c
 have g : 0 <= c /\ c < 16 := by omega
 have ki := f_isIn c 16 true (tt_iff g)
 obtain ⟨hz, hu⟩ := hzu
 rw [hz] at kz
 rw [hu] at ku
 have hm : rate / 1000 * rtu c <= 9223372036854775807 := by rw [hu]; omega
 have kS := f_ratS c (rate / 1000) rate g (by omega) hm w hL
 have hv : ratS c (rate / 1000) rate = rate / 1000 * 1000 := by unfold ratS; rw [if_neg (by omega), if_pos (by omega), hu]
 rw [hv] at kS
 clear hL hv hz hu hm
 by_cases hh : rate / 1000 < 256
 focus
  have kh := f_hold1 (rate / 1000) true (tt_iff hh)
  by_cases he : rate / 1000 * 1000 = rate
  focus
   have hbe : (rate / 1000 * 1000 == rate) = true := by rw [beq_iff_eq]; exact he
   rw [bb_yes hbb (by unfold sayR; omega)]
   clear hbb he hh g gc
  rotate_left
  focus
   have hbe : (rate / 1000 * 1000 == rate) = false := by rw [beq_eq_false_iff_ne]; exact he
   rw [bb_no hbb (by unfold sayR; omega)]
   clear hbb he hh g gc
  rotate_left
 rotate_left 2
 focus
  have kh := f_hold1 (rate / 1000) false (ff_iff hh)
  rw [bb_no hbb (by unfold sayR; omega)]
  clear hbb hh g kS gc
 rotate_left
 all_goals
  go_enter Tryz.func86, Tryz.ntmps86
  go_wp2_with fail
  refine (ku _).mono ?_
  rintro e wc0 ⟨rfl, hwc0⟩
  subst hwc0
  go_wp2_with fail
  refine (ki _).mono ?_
  rintro e wc1 ⟨rfl, hwc1⟩
  subst hwc1
  go_wp2_with fail
  refine (kz _).mono ?_
  rintro e wc2 ⟨rfl, hwc2⟩
  subst hwc2
  go_wp2_with fail
  refine (kh _).mono ?_
  rintro e wc3 ⟨rfl, hwc3⟩
  subst hwc3
  go_wp2_with fail
 ·refine kS.mono ?_
  rintro e wd ⟨rfl, hwd⟩
  subst hwd
  go_wp2_with fail
  go_ret
  exact ⟨rfl, rfl⟩
 ·refine kS.mono ?_
  rintro e wd ⟨rfl, hwd⟩
  subst hwd
  go_wp2_with fail
  go_ret
  exact ⟨rfl, rfl⟩
 ·go_ret
  exact ⟨rfl, rfl⟩
theorem f_sayR14 (c rate : Int) (hs : 1 <= rate /\ rate <= 9223372036854775807) (bb : Bool) (hbb : bb = true ↔ sayR c rate) (w : World) (hL : Lay w) (gc : c = 14) (hzu : rtb c = 2 /\ rtu c = 10) : Calls Tryz.prog 86 #[.int .i64 c, .int .i64 rate] w fun e w' => e = .returned (.bool bb) /\ w' = w := by
 have kz := f_rtb c
 have ku := f_rtu c
 have g : 0 <= c /\ c < 16 := by omega
 have ki := f_isIn c 16 true (tt_iff g)
 obtain ⟨hz, hu⟩ := hzu
 rw [hz] at kz
 rw [hu] at ku
 have hm : rate / 10 * rtu c <= 9223372036854775807 := by rw [hu]; omega
 have kS := f_ratS c (rate / 10) rate g (by omega) hm w hL
 have hv : ratS c (rate / 10) rate = rate / 10 * 10 := by unfold ratS; rw [if_neg (by omega), if_pos (by omega), hu]
 rw [hv] at kS
 clear hL hv hz hu hm
 by_cases hh : rate / 10 < 65536
 focus
  have kh := f_hold2 (rate / 10) true (tt_iff hh)
  by_cases he : rate / 10 * 10 = rate
  focus
   have hbe : (rate / 10 * 10 == rate) = true := by rw [beq_iff_eq]; exact he
   rw [bb_yes hbb (by unfold sayR; omega)]
   clear hbb he hh g gc
  rotate_left
  focus
   have hbe : (rate / 10 * 10 == rate) = false := by rw [beq_eq_false_iff_ne]; exact he
   rw [bb_no hbb (by unfold sayR; omega)]
   clear hbb he hh g gc
  rotate_left
 rotate_left 2
 focus
  have kh := f_hold2 (rate / 10) false (ff_iff hh)
  rw [bb_no hbb (by unfold sayR; omega)]
  clear hbb hh g kS gc
 rotate_left
 all_goals
  go_enter Tryz.func86, Tryz.ntmps86
  go_wp2_with fail
  refine (ku _).mono ?_
  rintro e wc0 ⟨rfl, hwc0⟩
  subst hwc0
  go_wp2_with fail
  refine (ki _).mono ?_
  rintro e wc1 ⟨rfl, hwc1⟩
  subst hwc1
  go_wp2_with fail
  refine (kz _).mono ?_
  rintro e wc2 ⟨rfl, hwc2⟩
  subst hwc2
  go_wp2_with fail
  refine (kh _).mono ?_
  rintro e wc3 ⟨rfl, hwc3⟩
  subst hwc3
  go_wp2_with fail
 ·refine kS.mono ?_
  rintro e wd ⟨rfl, hwd⟩
  subst hwd
  go_wp2_with fail
  go_ret
  exact ⟨rfl, rfl⟩
 ·refine kS.mono ?_
  rintro e wd ⟨rfl, hwd⟩
  subst hwd
  go_wp2_with fail
  go_ret
  exact ⟨rfl, rfl⟩
 ·go_ret
  exact ⟨rfl, rfl⟩
theorem f_sayR13 (c rate : Int) (hs : 1 <= rate /\ rate <= 9223372036854775807) (bb : Bool) (hbb : bb = true ↔ sayR c rate) (w : World) (hL : Lay w) (gc : c = 13) (hzu : rtb c = 2 /\ rtu c = 1) : Calls Tryz.prog 86 #[.int .i64 c, .int .i64 rate] w fun e w' => e = .returned (.bool bb) /\ w' = w := by
 have kz := f_rtb c
 have ku := f_rtu c
 have g : 0 <= c /\ c < 16 := by omega
 have ki := f_isIn c 16 true (tt_iff g)
 obtain ⟨hz, hu⟩ := hzu
 rw [hz] at kz
 rw [hu] at ku
 have kS := f_ratS c rate rate g (by omega) (by rw [hu]; omega) w hL
 have hv : ratS c rate rate = rate := by unfold ratS; rw [if_neg (by omega), if_pos (by omega), hu, Int.mul_one]
 rw [hv] at kS
 have hbe : (rate == rate) = true := by rw [beq_iff_eq]
 clear hL hv hz hu
 by_cases hh : rate < 65536
 focus
  have kh := f_hold2 rate true (tt_iff hh)
  rw [bb_yes hbb (by unfold sayR; omega)]
  clear hbb hh g gc
 rotate_left
 focus
  have kh := f_hold2 rate false (ff_iff hh)
  rw [bb_no hbb (by unfold sayR; omega)]
  clear hbb hh g kS gc
 rotate_left
 all_goals
  go_enter Tryz.func86, Tryz.ntmps86
  go_wp2_with fail
  refine (ku _).mono ?_
  rintro e wc0 ⟨rfl, hwc0⟩
  subst hwc0
  go_wp2_with fail
  refine (ki _).mono ?_
  rintro e wc1 ⟨rfl, hwc1⟩
  subst hwc1
  go_wp2_with fail
  refine (kz _).mono ?_
  rintro e wc2 ⟨rfl, hwc2⟩
  subst hwc2
  go_wp2_with fail
  refine (kh _).mono ?_
  rintro e wc3 ⟨rfl, hwc3⟩
  subst hwc3
  go_wp2_with fail
 ·refine kS.mono ?_
  rintro e wd ⟨rfl, hwd⟩
  subst hwd
  go_wp2_with fail
  go_ret
  exact ⟨rfl, rfl⟩
 ·go_ret
  exact ⟨rfl, rfl⟩
theorem f_sayRn (c rate : Int) (hs : 1 <= rate /\ rate <= 9223372036854775807) (bb : Bool) (hbb : bb = true ↔ sayR c rate) (w : World) (hL : Lay w) (g1 : ¬ c = 12) (g2 : ¬ c = 13) (g3 : ¬ c = 14) (g : 0 <= c /\ c < 16) (hzu : rtb c = 0 /\ rtu c = 1) : Calls Tryz.prog 86 #[.int .i64 c, .int .i64 rate] w fun e w' => e = .returned (.bool bb) /\ w' = w := by
 have kz := f_rtb c
 have ku := f_rtu c
 have ki := f_isIn c 16 true (tt_iff g)
 obtain ⟨hz, hu⟩ := hzu
 rw [hz] at kz
 rw [hu] at ku
 have kh := f_hold0 rate
 have kS := f_ratS c rate rate g (by omega) (by rw [hu]; omega) w hL
 by_cases g0 : c = 0
 focus
  have hv : ratS c rate rate = rate := by unfold ratS; rw [if_pos g0]
  rw [hv] at kS
  have hbe : (rate == rate) = true := by rw [beq_iff_eq]
  rw [bb_yes hbb (.inl g0)]
  clear hbb hL hv hz hu g0 g g1 g2 g3
 rotate_left
 focus
  have hv : ratS c rate rate = ratT.getD c.toNat 0 := by unfold ratS; rw [if_neg g0, if_neg (by omega)]
  have hr15 : c = 15 -> ratT.getD c.toNat 0 = 0 := fun h => by rw [h]; exact rat_15
  have hrn : ¬ c = 15 -> ratT.getD c.toNat 0 = ratN c := fun h => rat_eq c (by omega)
  rw [hv] at kS
  by_cases he : ratT.getD c.toNat 0 = rate
  focus
   have hbe : (ratT.getD c.toNat 0 == rate) = true := by rw [beq_iff_eq]; exact he
   have hn15 : ¬ c = 15 := fun h => by have := hr15 h; omega
   rw [bb_yes hbb (.inr (.inl ⟨by omega, by rw [<- hrn hn15]; exact he⟩))]
   clear hbb hL hv hz hu g0 g he hr15 hrn hn15 g1 g2 g3
   generalize ratT.getD c.toNat 0 = v at *
  rotate_left
  focus
   have hbe : (ratT.getD c.toNat 0 == rate) = false := by rw [beq_eq_false_iff_ne]; exact he
   rw [bb_no hbb (fun h => by
    rcases h with h | h | h | h | h
    ·exact g0 h
    ·exact he (by rw [hrn (by omega)]; exact h.2)
    ·omega
    ·omega
    ·omega)]
   clear hbb hL hv hz hu g0 g he hr15 hrn g1 g2 g3
   generalize ratT.getD c.toNat 0 = v at *
  rotate_left
 rotate_left 2
 all_goals
  go_enter Tryz.func86, Tryz.ntmps86
  go_wp2_with fail
  refine (ku _).mono ?_
  rintro e wc0 ⟨rfl, hwc0⟩
  subst hwc0
  go_wp2_with fail
  refine (ki _).mono ?_
  rintro e wc1 ⟨rfl, hwc1⟩
  subst hwc1
  go_wp2_with fail
  refine (kz _).mono ?_
  rintro e wc2 ⟨rfl, hwc2⟩
  subst hwc2
  go_wp2_with fail
  refine (kh _).mono ?_
  rintro e wc3 ⟨rfl, hwc3⟩
  subst hwc3
  go_wp2_with fail
  refine kS.mono ?_
  rintro e wd ⟨rfl, hwd⟩
  subst hwd
  go_wp2_with fail
  go_ret
  exact ⟨rfl, rfl⟩
theorem f_sayR (c rate : Int) (hs : 1 <= rate /\ rate <= 9223372036854775807) (bb : Bool) (hbb : bb = true ↔ sayR c rate) (w : World) (hL : Lay w) : Calls Tryz.prog 86 #[.int .i64 c, .int .i64 rate] w fun e w' => e = .returned (.bool bb) /\ w' = w := by
 by_cases g : 0 <= c /\ c < 16
 ·rcases rtb_all c with ⟨gc, hz, hu⟩ | ⟨gc, hz, hu⟩ | ⟨gc, hz, hu⟩ | ⟨g1, g2, g3, hz, hu⟩
  ·exact f_sayR12 c rate hs bb hbb w hL gc ⟨hz, hu⟩
  ·exact f_sayR13 c rate hs bb hbb w hL gc ⟨hz, hu⟩
  ·exact f_sayR14 c rate hs bb hbb w hL gc ⟨hz, hu⟩
  ·exact f_sayRn c rate hs bb hbb w hL g1 g2 g3 g ⟨hz, hu⟩
 ·have kz := f_rtb c
  have ku := f_rtu c
  have ki := f_isIn c 16 false (ff_iff g)
  have hu : rtu c = 1 := by unfold rtu; rw [if_neg (by omega), if_neg (by omega)]
  rw [hu] at ku
  rw [bb_no hbb (by unfold sayR; omega)]
  clear hbb hL kz g hu
  go_enter Tryz.func86, Tryz.ntmps86
  go_wp2_with fail
  refine (ku _).mono ?_
  rintro e wc0 ⟨rfl, hwc0⟩
  subst hwc0
  go_wp2_with fail
  refine (ki _).mono ?_
  rintro e wc1 ⟨rfl, hwc1⟩
  subst hwc1
  go_wp2_with fail
  go_ret
  exact ⟨rfl, rfl⟩
theorem f_sayW (c v : Int) (hs : 4 <= v /\ v <= 24) (bb : Bool) (hbb : bb = true ↔ sayW c v) (w : World) (hL : Lay w) : Calls Tryz.prog 87 #[.int .i64 c, .int .i64 v] w fun e w' => e = .returned (.bool bb) /\ w' = w := by
 have w37 := wid_37
 by_cases g : 0 <= c /\ c < 8
 focus
  have ki := f_isIn c 8 true (tt_iff g)
  have kS := f_widS c v g w hL
  have hwe := wid_eq c g
  by_cases g0 : c = 0
  focus
   have hv : widS c v = v := by unfold widS; rw [if_pos g0]
   rw [hv] at kS
   have hbe : (v == v) = true := by rw [beq_iff_eq]
   rw [bb_yes hbb (.inl g0)]
   clear hbb hL hv g0 g hwe w37
  rotate_left
  focus
   have hv : widS c v = widN c := by unfold widS; rw [if_neg g0, hwe]
   rw [hv] at kS
   by_cases he : widN c = v
   focus
    have hbe : (widN c == v) = true := by rw [beq_iff_eq]; exact he
    rw [bb_yes hbb (.inr ⟨⟨by omega, by
     rcases Int.lt_or_le 6 c with h | h
     ·have : c = 7 := by omega
      rw [this, w37.2.1] at he; omega
     ·exact h⟩, fun h => by rw [h, w37.1] at he; omega, he⟩)]
    clear hbb hL hv g0 g hwe w37 he
    generalize widN c = u at *
   rotate_left
   focus
    have hbe : (widN c == v) = false := by rw [beq_eq_false_iff_ne]; exact he
    rw [bb_no hbb (fun h => by rcases h with h | h; exact g0 h; exact he h.2.2)]
    clear hbb hL hv g0 g hwe w37 he
    generalize widN c = u at *
   rotate_left
  rotate_left 2
 rotate_left 3
 ·have ki := f_isIn c 8 false (ff_iff g)
  rw [bb_no hbb (by unfold sayW; omega)]
  clear hbb hL g w37
  go_enter Tryz.func87, Tryz.ntmps87
  go_wp2_with fail
  refine (ki _).mono ?_
  rintro e wc0 ⟨rfl, hwc0⟩
  subst hwc0
  go_wp2_with fail
  go_ret
  exact ⟨rfl, rfl⟩
 all_goals
  go_enter Tryz.func87, Tryz.ntmps87
  go_wp2_with fail
  refine (ki _).mono ?_
  rintro e wc0 ⟨rfl, hwc0⟩
  subst hwc0
  go_wp2_with fail
  refine kS.mono ?_
  rintro e wd ⟨rfl, hwd⟩
  subst hwd
  go_wp2_with fail
  go_ret
  exact ⟨rfl, rfl⟩
theorem unc_again (l : List Nat) : ∀ (m i n r : Nat), unc l m i n = (r, 0) -> r / 64 ^ m = n /\ (m = 0 ∨ i + m <= l.length) /\ ∀ t, t < m -> l.getD (i + t) 0 = 128 + r / 64 ^ (m - 1 - t) % 64 := by
 intro m
 induction m with
 | zero =>
  intro i n r h
  rw [unc_end] at h
  have e : n = r := congrArg Prod.fst h
  exact ⟨by rw [e, Nat.pow_zero, Nat.div_one], .inl rfl, fun t ht => absurd ht (Nat.not_lt_zero t)⟩
 | succ m ih =>
  intro i n r h
  by_cases h1 : l.length <= i
  ·rw [unc_short l m i n h1] at h
   have e : 10 = 0 := congrArg Prod.snd h
   cases e
  ·by_cases h2 : l.getD i 0 < 128 ∨ 192 <= l.getD i 0
   ·rw [unc_bad l m i n h1 h2] at h
    have e : 2 = 0 := congrArg Prod.snd h
    cases e
   ·rw [unc_step l m i n h1 h2] at h
    obtain ⟨a1, a2, a3⟩ := ih _ _ _ h
    have hr : r / 64 ^ (m + 1) = n := by
     rw [Nat.pow_succ, <- Nat.div_div_eq_div_mul, a1]
     omega
    refine ⟨hr, .inr (by omega), fun t ht => ?_⟩
    by_cases e : t = 0
    ·subst e
     rw [Nat.add_zero, show m + 1 - 1 - 0 = m by omega, a1]
     omega
    ·have h3 := a3 (t - 1) (by omega)
     rw [show i + 1 + (t - 1) = i + t by omega, show m - 1 - (t - 1) = m + 1 - 1 - t by omega] at h3
     exact h3
theorem clen_least (n k : Nat) (h1 : 1 <= k) (h7 : k <= 7) (h : n < cbound k) (hk : ¬ clen n < k) : clen n = k := by
 have := clen_le n k h1 h7 h
 omega
theorem uncode_again (l : List Nat) (hl : ∀ b ∈ l, b < 256) (n k : Nat) (h : uncode l = (n, k, 0)) : k = clen n /\ n < 68719476736 /\ k <= l.length /\ l.take k = codeL n k := by
 unfold uncode at h
 by_cases h0 : l.length = 0
 ·rw [if_pos h0] at h
  have e : 10 = 0 := congrArg (fun x => x.2.2) h
  cases e
 rw [if_neg h0] at h
 by_cases hz : hc (l.getD 0 0) = 0
 ·rw [if_pos hz] at h
  have e : 2 = 0 := congrArg (fun x => x.2.2) h
  cases e
 rw [if_neg hz] at h
 have hb : l.getD 0 0 < 256 := by
  rw [List.getD_eq_getElem?_getD, List.getElem?_eq_getElem (by omega)]
  exact hl _ (List.getElem_mem (by omega))
 obtain ⟨f1, f2⟩ := hc_first (l.getD 0 0) hb hz
 have h7 := hc_range (l.getD 0 0)
 have h1 : 1 <= hc (l.getD 0 0) := by omega
 obtain ⟨K, hK⟩ : ∃ K, K = hc (l.getD 0 0) := ⟨_, rfl⟩
 rw [<- hK] at h f1 f2 h7 h1
 obtain ⟨u, hu⟩ : ∃ u, u = unc l (K - 1) 1 (l.getD 0 0 - hm K) := ⟨_, rfl⟩
 rw [<- hu] at h
 unfold uncEnd at h
 by_cases hz2 : u.2 ≠ 0
 ·rw [if_pos hz2] at h
  exact absurd (congrArg (fun x => x.2.2) h) hz2
 rw [if_neg hz2] at h
 by_cases hs : clen u.1 < K
 ·rw [if_pos hs] at h
  have e : 2 = 0 := congrArg (fun x => x.2.2) h
  cases e
 rw [if_neg hs] at h
 have e1 : u.1 = n := congrArg (fun x => x.1) h
 have e2 : K = k := congrArg (fun x => x.2.1) h
 have hu2 : unc l (K - 1) 1 (l.getD 0 0 - hm K) = (n, 0) := by
  rw [<- hu, <- e1]
  exact Prod.ext rfl (Classical.not_not.1 hz2)
 obtain ⟨a1, a2, a3⟩ := unc_again l _ _ _ _ hu2
 rw [e1] at hs
 have hlt : n < cbound K := by
  have hp : 0 < 64 ^ (K - 1) := Nat.pow_pos (by decide)
  have h3 := Nat.lt_succ_self (n / 64 ^ (K - 1))
  rw [a1] at h3
  have h4 : n < (l.getD 0 0 - hm K + 1) * 64 ^ (K - 1) := by
   rw [<- Nat.div_lt_iff_lt_mul hp, a1]; exact Nat.lt_succ_self _
  omega
 have hcl := clen_least n K h1 h7 hlt hs
 have hcb := cbound_le K h1 h7
 have hKl : K <= l.length := by
  rcases a2 with a2 | a2 <;> omega
 rw [<- e2]
 refine ⟨hcl.symm, by omega, hKl, ?_⟩
 apply List.ext_getElem?
 intro j
 by_cases hj : j < K
 ·rw [List.getElem?_take, if_pos hj, List.getElem?_eq_getElem (by omega)]
  unfold codeL
  rw [List.getElem?_map, List.getElem?_range hj]
  show some l[j] = some (codeAt n K j)
  have hg : l[j] = l.getD j 0 := by rw [List.getD_eq_getElem?_getD, List.getElem?_eq_getElem (by omega)]; rfl
  rw [hg]
  congr 1
  unfold codeAt
  by_cases hj0 : j = 0
  ·subst hj0
   rw [if_pos rfl, a1]
   omega
  ·rw [if_neg hj0]
   have := a3 (j - 1) (by omega)
   rw [show 1 + (j - 1) = j by omega, show K - 1 - 1 - (j - 1) = K - 1 - j by omega] at this
   exact this
 ·rw [List.getElem?_eq_none (by rw [List.length_take]; omega), List.getElem?_eq_none (by rw [codeL_length]; omega)]
end Go.Proofs.YtfpfabmbipmipaaGreatDoor
