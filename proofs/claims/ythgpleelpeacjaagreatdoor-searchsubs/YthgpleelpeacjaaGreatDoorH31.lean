/- Own text. -/
import Derived.Test.YthgpleelpeacjaaGreatDoorH30
import Derived.Lib.TrailingZeros
import Derived.Laws.Bits64b
import Derived.Shelf.Spec.TrailingZeros
set_option linter.unusedSimpArgs false
set_option linter.unusedVariables false
set_option maxRecDepth 20000
set_option maxHeartbeats 12800000
namespace Go.Proofs.YthgpleelpeacjaaGreatDoor
open Go.RowKit
theorem rc_ints (l : List Int) (b r o : Nat) (ho : o ≤ 4) : (bestRc l b r o).P.length ≤ 17592186044415 ∧ (∀ n ∈ (bestRc l b r o).P, -9223372036854775808 ≤ n ∧ n ≤ 9223372036854775807) ∧ (bestRc l b r o).E.length ≤ 17592186044415 ∧ ∀ n ∈ (bestRc l b r o).E, -9223372036854775808 ≤ n ∧ n ≤ 9223372036854775807 := by
 have h2 : 2 ^ o ≤ 2 ^ 4 := Nat.pow_le_pow_right (by decide) ho
 refine ⟨?_, fun n hn => ?_, ?_, fun n hn => ?_⟩
 ·show (chP (ordF l b r o) (2 ^ o)).length ≤ _
  rw [chP_len]; omega
 ·obtain ⟨i, _, rfl⟩ := List.mem_map.1 hn
  have := bestK_le (ordF l b r o i) 14
  omega
 ·show (chE (2 ^ o)).length ≤ _
  rw [chE_len]; omega
 ·have : n = -1 := (List.mem_replicate.1 hn).2
  omega
theorem blk_ge {l : List Int} {n g o : Nat} (h : n < g) : 0 < l.length → ∀ b, blockOf (some ⟨g, o, none⟩) = some b → n < b := fun _ b hb => by
 have e : g = b := by simpa [blockOf] using hb
 rw [← e]; exact h
theorem ints_set {X X' : World} {n : Nat} {a : Option Addr} {l : List Int} (h : IntsAt X a l) (ho : 0 < l.length → ∀ b, blockOf a = some b → n < b) (hk : ∀ k, n < k → X'.heap[k]? = X.heap[k]?) : IntsAt X' a l := by
 refine ⟨h.len, h.num, fun h0 => ?_⟩
 obtain ⟨b, off, e, hc⟩ := h.lies h0
 refine ⟨b, off, e, fun j hj => ?_⟩
 rw [World.cell?_of_block (w := X) (hk b (ho h0 b (by rw [e]; rfl)))]
 exact hc j hj
theorem set5_a {wx : World} (n : Nat) (v2 v6 v7 v8 v9 : Value) {a0 a1 a2 a3 a4 a5 a6 a7 a8 a9 : Value} {t : TypeId} (h : wx.heap[n]? = some (.cells #[a0, a1, a2, a3, a4, a5, a6, a7, a8, a9] t (0, 0))) : ((((((wx.setCell ⟨n, 2, none⟩ v2).setCell ⟨n, 6, none⟩ v6).setCell ⟨n, 7, none⟩ v7).setCell ⟨n, 8, none⟩ v8).setCell ⟨n, 9, none⟩ v9)).heap[n]? = some (.cells #[a0, a1, v2, a3, a4, a5, v6, v7, v8, v9] t (0, 0)) := by
 rw [block_setCell _ _ _ _ _ _ (block_setCell _ _ _ _ _ _ (block_setCell _ _ _ _ _ _ (block_setCell _ _ _ _ _ _ (block_setCell _ _ _ _ _ _ h))))]
 simp only [List.setIfInBounds_toArray, List.set_cons_zero, List.set_cons_succ]
theorem set5_b {wx : World} (n : Nat) (v2 v6 v7 v8 v9 : Value) (w : World) (hn : w.heap.size ≤ n) (h : Below w.heap.size w wx) : Below w.heap.size w ((((((wx.setCell ⟨n, 2, none⟩ v2).setCell ⟨n, 6, none⟩ v6).setCell ⟨n, 7, none⟩ v7).setCell ⟨n, 8, none⟩ v8).setCell ⟨n, 9, none⟩ v9)) := ((((h.setCell hn _).setCell hn _).setCell hn _).setCell hn _).setCell hn _
theorem set5_d {wx : World} (n : Nat) (v2 v6 v7 v8 v9 : Value) (j : Nat) (h0 : j ≠ n) : ((((((wx.setCell ⟨n, 2, none⟩ v2).setCell ⟨n, 6, none⟩ v6).setCell ⟨n, 7, none⟩ v7).setCell ⟨n, 8, none⟩ v8).setCell ⟨n, 9, none⟩ v9)).heap[j]? = wx.heap[j]? := by
 rw [Below.heap_setCell _ _ _ j h0, Below.heap_setCell _ _ _ j h0, Below.heap_setCell _ _ _ j h0, Below.heap_setCell _ _ _ j h0, Below.heap_setCell _ _ _ j h0]
theorem z_codings (l : List Int) (v lv : Int) (hlv : 0 ≤ lv ∧ lv ≤ 2) (hv : 1 ≤ v ∧ v ≤ 33) (hn1 : 1 ≤ l.length) (hn2 : l.length ≤ 65535) (hfit : ∀ x ∈ l, sigE x v = 0) (la : Option Addr) (lc : Nat) (hlc : (shrL l (wasN l)).length ≤ lc) (w : World) (hm : IntsAt w la (shrL l (wasN l))) : Calls Tryz.prog 76 #[.slice la (shrL l (wasN l)).length lc, .int .i64 ((v.toNat - wasN l : Nat) : Int), .int .i64 (wasN l : Int), .int .i64 lv] w fun e w' => ∃ so cap L, e = .returned (.slice so L.length cap) ∧ CL w (.slice so L.length cap) L w' ∧ L.map cdP = cdL lv (wasN l : Int) v l (shrL l (wasN l)) (trL lv (wasN l : Int)).length := by
 obtain ⟨iC, hCa, hCb, hCc, hCd⟩ := cod_info
 have hml : (shrL l (wasN l)).length = l.length := shrL_ln l _
 have hw31 := wasN_le l
 have hwv := was_lt l v hv.1 hfit
 have hu33 : v.toNat - wasN l ≤ 33 := by omega
 have HSA : Hid ((shrL l (wasN l)).all (fun x => x == (shrL l (wasN l)).getD 0 0) = l.all (fun x => x == l.getD 0 0)) := same_div l
 have HD0 : Hid ((l.all (fun x => x == l.getD 0 0) = true → cdL lv (wasN l : Int) v l (shrL l (wasN l)) 0 = [(cnS (wasN l : Int), 8 + wasN l + (v.toNat - wasN l))] ++ [(vbS (wasN l : Int), 8 + wasN l + (shrL l (wasN l)).length * (v.toNat - wasN l))]) ∧ (l.all (fun x => x == l.getD 0 0) = false → cdL lv (wasN l : Int) v l (shrL l (wasN l)) 0 = [(vbS (wasN l : Int), 8 + wasN l + (shrL l (wasN l)).length * (v.toNat - wasN l))])) := by
  refine ⟨fun h => ?_, fun h => ?_⟩
  ·rw [cdL_0, cs_yes v l h hv hn1 hn2 hfit, vb_bits v l hv hn1 hn2 hfit]; rfl
  ·rw [cdL_0, cs_no v l _ _ (by rw [h]; decide), vb_bits v l hv hn1 hn2 hfit]; rfl
 have HLEN : Hid ((trL lv (wasN l : Int)).length = (trL lv 0).length ∧ (trL lv 0).length ≤ 8 ∧ 0 < (trL lv 0).length) := by
  refine ⟨by rw [trL_w, List.length_map], trL_len lv 0, ?_⟩
  unfold trL
  rw [List.length_append, List.length_map, List.length_range]
  split <;> omega
 have HDLEN : Hid (∀ i, (cdL lv (wasN l : Int) v l (shrL l (wasN l)) i).length ≤ 10) := cdL_len lv _ v l _
 have HRD : Hid (∀ i q0, (trL lv 0)[i]? = some q0 → (¬ q0.o ≤ (l.length : Int) ∧ lfR q0 (shrL l (wasN l)) = none ∧ cdL lv (wasN l : Int) v l (shrL l (wasN l)) (i + 1) = cdL lv (wasN l : Int) v l (shrL l (wasN l)) i) ∨ (∃ (R : List Int) (rc : Rc) (nb p cf N r : Nat), lfR q0 (shrL l (wasN l)) = some R ∧ (ShY R ∧ R.length = (shrL l (wasN l)).length - r ∧ q0.o = (r : Int) ∧ r ≤ 4 ∧ r ≤ (shrL l (wasN l)).length) ∧ (rc = bestRc R (shrL l (wasN l)).length r (bestK (ordS R (shrL l (wasN l)).length r) (fnO (shrL l (wasN l)).length r)) ∧ nb = ordS R (shrL l (wasN l)).length r (bestK (ordS R (shrL l (wasN l)).length r) (fnO (shrL l (wasN l)).length r))) ∧ (nb ≤ 18000000000000 ∧ p ≤ 1000 ∧ cf ≤ 1000) ∧ q0.o * ((v.toNat - wasN l : Nat) : Int) = (p : Int) ∧ (cf : Int) = (if q0.k = 2 then 0 else 9 + q0.o * q0.p) ∧ I64 (q0.o * q0.p) ∧ N = 8 + wasN l + (p + cf + nb) ∧ cdL lv (wasN l : Int) v l (shrL l (wasN l)) (i + 1) = cdL lv (wasN l : Int) v l (shrL l (wasN l)) i ++ [(⟨q0.k, q0.o, (wasN l : Int), q0.p, q0.h, q0.C, rc⟩, N)])) := fun i q0 hi => by
  have hmem : q0 ∈ trL lv 0 := by
   obtain ⟨h1, h2⟩ := List.getElem?_eq_some_iff.1 hi
   rw [← h2]; exact List.getElem_mem h1
  have hq : (trL lv (wasN l : Int))[i]? = some (wiW (wasN l : Int) q0) := by rw [trL_w, List.getElem?_map, hi]; rfl
  have hsu := cdL_succ lv (wasN l : Int) v l (shrL l (wasN l)) i _ hq
  by_cases ho : q0.o ≤ (l.length : Int)
  ·right
   obtain ⟨R, rc, nb, p, cf, N, r, h1, h2, h3, h4, h5, h6, h7, h8, h9⟩ := pr_yes lv v l q0 hmem ho hv hn1 hn2 hfit
   exact ⟨R, rc, nb, p, cf, N, r, h1, h2, h3, h4, h5, h6, h7, h8, by rw [hsu, h9]; rfl⟩
  ·left
   obtain ⟨h1, h2⟩ := pr_no lv v l q0 hmem ho
   exact ⟨ho, h1, by rw [hsu, h2]; simp⟩
 have HI64 : Hid (∀ q0, q0 ∈ trL lv 0 → I64 q0.k ∧ I64 q0.o ∧ I64 q0.p ∧ I64 q0.h) := fun q0 hq => by
  rcases (trL_tried lv 0 q0 hq).1 with rfl | rfl | ⟨o, ho, rfl⟩ | ⟨C, hC, rfl⟩
  ·exact ⟨by show I64 0; decide, by show I64 0; decide, by show I64 0; decide, by show I64 0; decide⟩
  ·exact ⟨by show I64 1; decide, by show I64 0; decide, by show I64 0; decide, by show I64 0; decide⟩
  ·exact ⟨by show I64 2; decide, by show I64 (o : Int); omega, by show I64 0; decide, by show I64 0; decide⟩
  ·have h4 := tried_o 0 (lpS 0 C) (Or.inr (Or.inr (Or.inr ⟨C, hC, rfl⟩)))
   exact ⟨by show I64 3; decide, by omega, by show I64 7; decide, by show I64 5; decide⟩
 have KP : Hid (∀ wx, Calls Tryz.prog 142 #[.int .i64 lv] wx fun e w' => ∃ so cap L, e = .returned (.slice so L.length cap) ∧ TS wx (.slice so L.length cap) L w' ∧ L.map (·.q) = trL lv 0 ∧ CapK L) := fun wx => by
  rcases (show lv = 0 ∨ lv = 1 ∨ lv = 2 by omega) with h | h | h
  ·exact z_pred0 lv h wx
  ·exact z_pred1 lv h wx
  ·exact z_pred2 lv h wx
 have KA : Hid (∀ wx, Below w.heap.size w wx → Calls Tryz.prog 140 #[.slice la (shrL l (wasN l)).length lc] wx fun e w' => e = .returned (.bool (l.all (fun x => x == l.getD 0 0))) ∧ w' = wx) := fun wx hb => by
  have k := z_areSame (shrL l (wasN l)) la lc wx (hm.below hb)
  rw [HSA.out] at k
  exact k
 have hm65 : (shrL l (wasN l)).length ≤ 65535 := by omega
 have hm1 : 1 ≤ (shrL l (wasN l)).length := by omega
 have HM : Hid (IntsAt w la (shrL l (wasN l))) := hm
 clear hfit hm HSA hml hwv hn1 hn2
 generalize hDL : cdL lv (wasN l : Int) v l (shrL l (wasN l)) = DL at *
 generalize hBS : l.all (fun x => x == l.getD 0 0) = BS at *
 generalize hMM : (shrL l (wasN l)) = m at *
 generalize hUU : v.toNat - wasN l = u at *
 generalize hWW : wasN l = wst at *
 clear hDL hBS hMM hUU hWW
 generalize hPL : trL lv 0 = PL at *
 clear hPL hlv hv
 have KC1 : Hid (∀ wx, Calls Tryz.prog 141 #[.agg #[.int .i64 0, .int .i64 0, .int .i64 (wst : Int), .int .i64 0, .int .i64 0, .slice none 0 0, .int .i64 0, .int .i64 0, .slice none 0 0, .slice none 0 0], .int .i64 (u : Int)] wx fun e w' => ∃ g, e = .returned (.agg #[.int .i64 0, .slice (some ⟨g, 0, none⟩) 1 1, .int .i64 ((8 + wst + u : Nat) : Int)]) ∧ w'.heap[g]? = some (.cells (subC (cnS (wst : Int)) none 0 none 0 none 0) 27 (0, 0)) ∧ wx.heap.size ≤ g ∧ Below wx.heap.size wx w') := fun wx => by
  have k := z_codingOf (cnS (wst : Int)) none 0 none 0 none 0 (u : Int) (by show I64 (8 + (wst : Int) + (u : Int)); omega) (by show I64 (8 + (wst : Int)); omega) wx
  have e : (8 : Int) + (cnS (wst : Int)).w + (u : Int) = ((8 + wst + u : Nat) : Int) := by show 8 + (wst : Int) + (u : Int) = _; omega
  rw [e] at k
  exact k
 have hmu : m.length * u ≤ 65535 * 33 := Nat.mul_le_mul hm65 hu33
 obtain ⟨P1, hP1⟩ : ∃ P1, P1 = m.length * u := ⟨_, rfl⟩
 have HMU : Hid (wrap64 ((m.length : Int) * (u : Int)) = (P1 : Int)) := by
  have e : (m.length : Int) * (u : Int) = (P1 : Int) := by rw [hP1]; simp
  show _ = _
  rw [e]; exact wid _ (by omega)
 rw [← hP1] at HD0 hmu
 clear hP1
 have KV1 : Hid (∀ wx, Calls Tryz.prog 141 #[.agg #[.int .i64 1, .int .i64 0, .int .i64 (wst : Int), .int .i64 0, .int .i64 0, .slice none 0 0, .int .i64 0, .int .i64 0, .slice none 0 0, .slice none 0 0], .int .i64 (P1 : Int)] wx fun e w' => ∃ g, e = .returned (.agg #[.int .i64 0, .slice (some ⟨g, 0, none⟩) 1 1, .int .i64 ((8 + wst + P1 : Nat) : Int)]) ∧ w'.heap[g]? = some (.cells (subC (vbS (wst : Int)) none 0 none 0 none 0) 27 (0, 0)) ∧ wx.heap.size ≤ g ∧ Below wx.heap.size wx w') := fun wx => by
  have k := z_codingOf (vbS (wst : Int)) none 0 none 0 none 0 (P1 : Int) (by show I64 (8 + (wst : Int) + (P1 : Int)); omega) (by show I64 (8 + (wst : Int)); omega) wx
  have e : (8 : Int) + (vbS (wst : Int)).w + (P1 : Int) = ((8 + wst + P1 : Nat) : Int) := by show 8 + (wst : Int) + (P1 : Int) = _; omega
  rw [e] at k
  exact k
 obtain ⟨n1, hn1⟩ : ∃ n1, n1 = 8 + wst + u := ⟨_, rfl⟩
 obtain ⟨n2, hn2⟩ : ∃ n2, n2 = 8 + wst + P1 := ⟨_, rfl⟩
 rw [← hn1] at HD0 KC1
 rw [← hn2] at HD0 KV1
 clear hn1 hn2 hmu
 have HSN : Hid (∀ (X : World) (v : Value) (q : Sb) (n g : Nat), (q = cnS (wst : Int) ∨ q = vbS (wst : Int)) → X.heap[g]? = some (.cells (subC q none 0 none 0 none 0) 27 (0, 0)) → (∀ k, v.ownBlock = some k → k < g) → COff v X ⟨q, n, g, none, 0, none, 0, none, 0⟩) := fun X v q n g hq hg hv => by
  have hgl := lt_of_block hg
  have i0 : IOff v X none [] := IOff.nil _ _
  have r0 : RcAt X R00 none none := ⟨IntsAt.nil _, IntsAt.nil _, by decide, by decide, by decide, by decide⟩
  have o0 : Off v X g := ⟨hgl, fun e => by have := hv g e; omega⟩
  rcases hq with rfl | rfl
  ·have s0 : SbAt X (cnS (wst : Int)) none none none := ⟨IntsAt.nil _, r0, by show I64 0; decide, by show I64 0; decide, by show I64 (wst : Int); omega, by show I64 0; decide, by show I64 0; decide⟩
   exact ⟨⟨hg, s0, Nat.le_refl _, fun _ => rfl⟩, o0, i0, i0, i0⟩
  ·have s0 : SbAt X (vbS (wst : Int)) none none none := ⟨IntsAt.nil _, r0, by show I64 1; decide, by show I64 0; decide, by show I64 (wst : Int); omega, by show I64 0; decide, by show I64 0; decide⟩
   exact ⟨⟨hg, s0, Nat.le_refl _, fun _ => rfl⟩, o0, i0, i0, i0⟩
 obtain ⟨L9, hL9⟩ : ∃ L9 : List Cd, L9 = [] := ⟨_, rfl⟩
 have HB0 : Hid (CL w (.slice none 0 0) L9 w) := by rw [hL9]; exact CL.nil w w (Below.refl _ _)
 have hl9 : L9.length ≤ 0 := by rw [hL9]; exact Nat.le_refl _
 have HL9 : Hid (L9 = []) := hL9
 clear hL9
 go_enter Tryz.func76, Tryz.ntmps76
 go_wp2_with fail
 refine (KA.out w (Below.refl _ _)).mono ?_
 rintro e w1 ⟨rfl, hw1⟩
 subst hw1
 go_upto_if 17 with fail
 go_cut [9] from 18 to 24 (fun s9 wx => ∃ (vv : Value) (L : List Cd), s9 = vv ∧ CL w1 vv L wx ∧ L.length ≤ 1 ∧ L.map cdP ++ [(vbS (wst : Int), n2)] = DL 0)
 case first =>
  cases BS with
  | false =>
   have HE : Hid (DL 0 = [(vbS (wst : Int), n2)]) := HD0.out.2 rfl
   go_wp2_with fail
   go_meet
   exact ⟨_, L9, rfl, HB0.out, by omega, by rw [HE.out, HL9.out]; rfl⟩
  | true =>
   have HE : Hid (DL 0 = [(cnS (wst : Int), n1)] ++ [(vbS (wst : Int), n2)]) := HD0.out.1 rfl
   go_wp2_with fail
   refine (KC1.out w1).mono ?_
   rintro e wx2 ⟨g2, rfl, hg2, hge2, hb2⟩
   have HC2 : Hid (CL w1 (.slice none 0 0) L9 wx2) := HB0.out.low hb2
   have HX2 : Hid (COff (.slice none 0 0) wx2 ⟨cnS (wst : Int), n1, g2, none, 0, none, 0, none, 0⟩) := HSN.out wx2 (.slice none 0 0) (cnS (wst : Int)) n1 g2 (by first | exact Or.inl rfl | exact Or.inr rfl) hg2 (fun k hk => Nat.lt_of_lt_of_le (HB0.out.own_lt k hk) hge2)
   have HF2 : Hid (FrC w1.heap.size ⟨cnS (wst : Int), n1, g2, none, 0, none, 0, none, 0⟩) := ⟨Nat.le_trans HB0.out.below.size hge2, fun h => absurd h (Nat.lt_irrefl 0), fun h => absurd h (Nat.lt_irrefl 0), fun h => absurd h (Nat.lt_irrefl 0)⟩
   clear hb2 hg2 hge2
   go_wp2_with (at_builtin; refine wpList_append_lies _ rfl (.tmp 18) (.tmp 23) 115 rfl w1.heap.size 63 iC (.agg #[.int .i64 0, .slice none 0 0, .int .i64 0]) 3 40 undCods hCa hCb hCc hCd rfl (by decide) (.slice none 0 0) L9.length (rowD L9) rfl (HC2.out.low ((Below.refl _ _).alloc (Nat.le_refl _) _)).own ⟨wx2.heap.size, 0, none⟩ 1 1 (#[.int .i64 0, .slice (some ⟨g2, 0, none⟩) 1 1, .int .i64 (n1 : Int)]).toList rfl rfl (World.news_of_block (cs := #[.int .i64 0, .slice (some ⟨g2, 0, none⟩) 1 1, .int .i64 (n1 : Int)]) (t := 63) (fr := (0, 0)) (heap_alloc_new _ _)) (by intro u hu; simp at hu; rcases hu with h | h | h <;> (rw [h]; rfl)) (by decide) (by unfold maxLen; omega) (by omega) (HC2.out.low ((Below.refl _ _).alloc (Nat.le_refl _) _)).below.size _ rfl ?_; intro gA cA wA ownA groA hatA hltA)
   have HC3 : Hid (CL w1 (.slice (some ⟨gA, 0, none⟩) (L9.length + 1) cA) (L9 ++ [⟨cnS (wst : Int), n1, g2, none, 0, none, 0, none, 0⟩]) wA) := (HC2.out.low ((Below.refl _ _).alloc (Nat.le_refl _) _)).push ⟨cnS (wst : Int), n1, g2, none, 0, none, 0, none, 0⟩ (HX2.out.low ((Below.refl _ _).alloc (Nat.le_refl _) _)) HF2.out ownA groA hatA
   clear ownA groA hatA hltA HX2 HC2
   go_wp2_with fail
   go_meet
   exact ⟨_, _, rfl, HC3.out, by rw [HL9.out]; exact Nat.le_refl _, by rw [HE.out, HL9.out]; rfl⟩
 case rest =>
  obtain ⟨vv, L0, hs9, hcl, hl1, hmap⟩ := hcut
  subst hs9
  obtain ⟨oa, oc, hvv⟩ := hcl.shape
  subst hvv
  have HC0 : Hid (CL w1 (.slice oa L0.length oc) L0 wc) := hcl
  have HMP : Hid (L0.map cdP ++ [(vbS (wst : Int), n2)] = DL 0) := hmap
  clear hcl hmap HB0 HD0 KA KC1
  go_wp2_with fail
  rw [HMU.out]
  refine (KV1.out wc).mono ?_
  rintro e wx2 ⟨g2, rfl, hg2, hge2, hb2⟩
  have HC2 : Hid (CL w1 (.slice oa L0.length oc) L0 wx2) := HC0.out.low hb2
  have HX2 : Hid (COff (.slice oa L0.length oc) wx2 ⟨vbS (wst : Int), n2, g2, none, 0, none, 0, none, 0⟩) := HSN.out wx2 (.slice oa L0.length oc) (vbS (wst : Int)) n2 g2 (by first | exact Or.inl rfl | exact Or.inr rfl) hg2 (fun k hk => Nat.lt_of_lt_of_le (HC0.out.own_lt k hk) hge2)
  have HF2 : Hid (FrC w1.heap.size ⟨vbS (wst : Int), n2, g2, none, 0, none, 0, none, 0⟩) := ⟨Nat.le_trans HC0.out.below.size hge2, fun h => absurd h (Nat.lt_irrefl 0), fun h => absurd h (Nat.lt_irrefl 0), fun h => absurd h (Nat.lt_irrefl 0)⟩
  clear hb2 hg2 hge2
  go_wp2_with (at_builtin; refine wpList_append_lies _ rfl (.tmp 25) (.tmp 33) 115 rfl w1.heap.size 63 iC (.agg #[.int .i64 0, .slice none 0 0, .int .i64 0]) 3 40 undCods hCa hCb hCc hCd rfl (by decide) (.slice oa L0.length oc) L0.length (rowD L0) rfl (HC2.out.low ((Below.refl _ _).alloc (Nat.le_refl _) _)).own ⟨wx2.heap.size, 0, none⟩ 1 1 (#[.int .i64 0, .slice (some ⟨g2, 0, none⟩) 1 1, .int .i64 (n2 : Int)]).toList rfl rfl (World.news_of_block (cs := #[.int .i64 0, .slice (some ⟨g2, 0, none⟩) 1 1, .int .i64 (n2 : Int)]) (t := 63) (fr := (0, 0)) (heap_alloc_new _ _)) (by intro u hu; simp at hu; rcases hu with h | h | h <;> (rw [h]; rfl)) (by decide) (by unfold maxLen; omega) (by omega) (HC2.out.low ((Below.refl _ _).alloc (Nat.le_refl _) _)).below.size _ rfl ?_; intro gA cA wA ownA groA hatA hltA)
  have HC3 : Hid (CL w1 (.slice (some ⟨gA, 0, none⟩) (L0.length + 1) cA) (L0 ++ [⟨vbS (wst : Int), n2, g2, none, 0, none, 0, none, 0⟩]) wA) := (HC2.out.low ((Below.refl _ _).alloc (Nat.le_refl _) _)).push ⟨vbS (wst : Int), n2, g2, none, 0, none, 0, none, 0⟩ (HX2.out.low ((Below.refl _ _).alloc (Nat.le_refl _) _)) HF2.out ownA groA hatA
  clear ownA groA hatA hltA HX2 HC2
  have HM3 : Hid ((L0 ++ [(⟨vbS (wst : Int), n2, g2, none, 0, none, 0, none, 0⟩ : Cd)]).map cdP = DL 0) := by show _ = _; rw [List.map_append, ← HMP.out]; rfl
  have HLE : Hid ((L0 ++ [(⟨vbS (wst : Int), n2, g2, none, 0, none, 0, none, 0⟩ : Cd)]).length = L0.length + 1) := by show _ = _; rw [List.length_append]; rfl
  rw [← HLE.out] at HC3
  generalize hLL : L0 ++ [(⟨vbS (wst : Int), n2, g2, none, 0, none, 0, none, 0⟩ : Cd)] = L1 at *
  clear hLL HC0 HMP hl1 KV1 HSN HMU hl9 HL9
  go_wp2_with fail
  refine (KP.out wA).mono ?_
  rintro e wP ⟨so, cap, LT, rfl, hts, htm, hck⟩
  have hTl : LT.length = PL.length := by have := congrArg List.length htm; rwa [List.length_map] at this
  have hT8 : LT.length ≤ 8 := by have := HLEN.out.2.1; omega
  have hT0 : 0 < LT.length := by have := HLEN.out.2.2; omega
  obtain ⟨gT, capT, eT, hgT⟩ : ∃ gT capT, Value.slice so LT.length cap = .slice (some ⟨gT, 0, none⟩) LT.length capT ∧ wA.heap.size ≤ gT := by
   obtain ⟨g, c, h1, h2, _⟩ := hts.own.form hT0
   exact ⟨g, c, h1, h2⟩
  cases eT
  obtain ⟨cs, hpt, hcs⟩ := PT.new (v := .slice (some ⟨gA, 0, none⟩) L1.length cA) hts rfl HC3.out.own_lt hT0
  have HC4 : Hid (CL w1 (.slice (some ⟨gA, 0, none⟩) L1.length cA) L1 wP) := HC3.out.low (hts.below)
  have HPT : Hid (PT (.slice (some ⟨gA, 0, none⟩) L1.length cA) gT (.cells cs 27 (0, 0)) LT wP) := hpt
  have HCS : Hid (∀ i, i < LT.length * 10 → cs[i]? = (rowC LT)[i]?) := hcs
  have HTM : Hid (LT.map (·.q) = PL) := htm
  have HCK : Hid (CapK LT) := hck
  have HTF : Hid (∀ e ∈ LT, 0 < e.q.C.length → ∀ b, blockOf e.ca = some b → w1.heap.size ≤ b) := fun e he h0 b hb => Nat.le_trans HC3.out.below.size (hts.apart e he h0 b hb).1
  have HTL : Hid (LT.length = PL.length) := hTl
  clear hts hpt hcs htm hck HC3 hTl hgT
  go_wp2_with fail
  go_loopw [9, 38] (fun s9 s38 wr => ∃ (i : Nat) (vv : Value) (L : List Cd), i ≤ LT.length ∧ s38 = .int .i64 (i : Int) ∧ s9 = vv ∧ CL w1 vv L wr ∧ L.map cdP = DL i ∧ PT vv gT (.cells cs 27 (0, 0)) LT wr) (fun _ s38 _ => LT.length - (intOf s38).toNat)
  case atStart => exact ⟨0, _, L1, Nat.zero_le _, rfl, rfl, by have h := HC4.out; rw [HLE.out] at h; exact h, HM3.out, by have h := HPT.out; rw [HLE.out] at h; exact h⟩
  case round =>
   clear HC4 HPT HM3 HLE KP
   obtain ⟨i, vv, L, hi, rfl, rfl, hcl, hmap, hpt⟩ := hrel
   obtain ⟨oa, oc, hvv⟩ := hcl.shape
   subst hvv
   have HCL : Hid (CL w1 (.slice oa L.length oc) L wr) := hcl
   have HMP : Hid (L.map cdP = DL i) := hmap
   have HPT : Hid (PT (.slice oa L.length oc) gT (.cells cs 27 (0, 0)) LT wr) := hpt
   have hLl : L.length ≤ 10 := by have h1 := congrArg List.length hmap; rw [List.length_map] at h1; have := HDLEN.out i; omega
   clear hcl hmap hpt
   by_cases hlt : i < LT.length
   ·obtain ⟨x, hx⟩ : ∃ x, LT[i]? = some x := ⟨_, List.getElem?_eq_getElem hlt⟩
    have hxm : x ∈ LT := by
     obtain ⟨h1, h2⟩ := List.getElem?_eq_some_iff.1 hx
     rw [← h2]; exact List.getElem_mem h1
    obtain ⟨q0, ca, cc⟩ := x
    have hq0 : PL[i]? = some q0 := by rw [← HTM.out, List.getElem?_map, hx]; rfl
    have HPLM : Hid (q0 ∈ PL) := by
     obtain ⟨h1, h2⟩ := List.getElem?_eq_some_iff.1 hq0
     show _ ∈ _
     rw [← h2]; exact List.getElem_mem h1
    have HRI := HRD.out i q0 hq0
    have HCC : Hid (q0.C.length ≤ cc ∧ (ca = none → cc = 0)) := HCK.out _ hxm
    have HFC : Hid (0 < q0.C.length → ∀ b, blockOf ca = some b → w1.heap.size ≤ b) := HTF.out _ hxm
    have HIC : Hid (IOff (.slice oa L.length oc) wr ca q0.C) := HPT.out.ints _ hxm
    obtain ⟨t0, t1, t2, t3, t4, t5, t6, t7, t8, t9⟩ := row_cells HPT.out.row HCS.out i _ hx
    clear hx hxm hq0
    dsimp only at t0 t1 t2 t3 t4 t5 t6 t7 t8 t9
    have HKL : Hid (∀ wx, Below w1.heap.size w1 wx → IntsAt wx ca q0.C → Calls Tryz.prog 143 #[subV q0 ca cc none 0 none 0, .slice la m.length lc] wx (RetM (lfR q0 m) wx)) := fun wx hb hC => z_leftOver q0 ca cc none 0 none 0 m la lc hlc wx hC (HM.out.below hb)
    have HBWa : Hid (Below wr.heap.size wr (wr.alloc (.cells (subC q0 ca cc none 0 none 0) 27))) := ((Below.refl _ _).alloc (Nat.le_refl _) _)
    have HBXa : Hid ((wr.alloc (.cells (subC q0 ca cc none 0 none 0) 27)).heap[wr.heap.size]? = some (.cells (subC q0 ca cc none 0 none 0) 27 (0, 0))) := heap_alloc_new _ _
    go_upto_region 8 with fail
    generalize hwa : World.alloc _ _ = wa at *
    clear hwa t0 t1 t2 t3 t4 t5 t6 t7 t8 t9
    obtain ⟨y0, y1, y2, y3, y4, y5, y6, y7, y8, y9⟩ := sub_cells HBXa.out
    rcases HRI with ⟨hno, hl1, hd1⟩ | ⟨R, rc, nb, p, cf, N, r, hl1, hsh, hrc, hbd, hpm, hcf, hop, hN, hd1⟩
    ·have HDE : Hid (DL (i + 1) = DL i) := hd1
     have KL := HKL.out wa (HCL.out.low HBWa.out).below (HIC.out.low HBWa.out).i
     rw [hl1] at KL
     clear hd1 hl1 hno HKL
     go_wp2_with fail
     refine KL.mono ?_
     rintro e w2 ⟨rfl, hb2⟩
     have HBWb : Hid (Below wr.heap.size wr w2) := HBWa.out.trans (hb2.mono HBWa.out.size)
     have HBXb : Hid (w2.heap[wr.heap.size]? = some (.cells (subC q0 ca cc none 0 none 0) 27 (0, 0))) := by show _ = _; rw [Below.block hb2 _ (lt_of_block HBXa.out)]; exact HBXa.out
     clear HBXa HBWa
     clear hb2 KL y0 y1 y2 y3 y4 y5 y6 y7 y8 y9
     go_wp2_with fail
     go_roundw
     case rel => exact ⟨i + 1, _, L, by omega, by go_num, rfl, HCL.out.low HBWb.out, by rw [HDE.out]; exact HMP.out, HPT.out.low HBWb.out⟩
     case measure => simp [intOf]; omega
    ·have HDE : Hid (DL (i + 1) = DL i ++ [(⟨q0.k, q0.o, (wst : Int), q0.p, q0.h, q0.C, rc⟩, N)]) := hd1
     have KL := HKL.out wa (HCL.out.low HBWa.out).below (HIC.out.low HBWa.out).i
     rw [hl1] at KL
     have KBs : Hid (∀ wx la2 lc2, Made wa la2 lc2 R wx → Calls Tryz.prog 144 #[.int .i64 (m.length : Int), .int .i64 q0.o, .slice la2 R.length lc2] wx fun en w' => ∃ gp ge pc, en = .returned (.tuple #[riceV rc (some ⟨gp, 0, none⟩) pc (some ⟨ge, 0, none⟩) pc, .int .i64 (nb : Int)]) ∧ (IntsAt w' (some ⟨gp, 0, none⟩) rc.P ∧ IntsAt w' (some ⟨ge, 0, none⟩) rc.E) ∧ (wx.heap.size ≤ gp ∧ wx.heap.size ≤ ge) ∧ Below wx.heap.size wx w') := fun wx la2 lc2 hmd => by
      obtain ⟨hs1, hs2, hs3, hs4, hs5⟩ := hsh
      have hfo := fnO_best m.length r hm1 hm65 (by omega) hs5
      have k := best_main m.length (fnO m.length r) r (fnO_cut m.length r hm1 hm65 (by omega) hs5) hfo.1 hfo.2.2 R hs1 la2 lc2 hmd.cap_ hmd.none_ wx hmd.ints hs2
      rw [hs3]
      refine k.mono fun en w' hh => ?_
      obtain ⟨gp, ge, e1, e2, e3, e4, e5, e6⟩ := hh
      rw [hrc.1, hrc.2]
      have hk := bestK_le (ordS R m.length r) (fnO m.length r)
      obtain ⟨p1, p2, p3, p4⟩ := rc_ints R m.length r (bestK (ordS R m.length r) (fnO m.length r)) (by omega)
      exact ⟨gp, ge, _, e1, ⟨IntsBlk.ints e2 p1 p2, IntsBlk.ints e3 p3 p4⟩, ⟨e4, e5⟩, e6⟩
     have HRCB : Hid (-9223372036854775808 ≤ rc.m ∧ rc.m ≤ 9223372036854775807 ∧ -9223372036854775808 ≤ rc.o ∧ rc.o ≤ 9223372036854775807) := by
      obtain ⟨hs1, hs2, hs3, hs4, hs5⟩ := hsh
      have hfo := fnO_best m.length r hm1 hm65 (by omega) hs5
      have hk := bestK_le (ordS R m.length r) (fnO m.length r)
      rw [hrc.1]
      show -9223372036854775808 ≤ (0 : Int) ∧ (0 : Int) ≤ 9223372036854775807 ∧ -9223372036854775808 ≤ ((bestK (ordS R m.length r) (fnO m.length r) : Nat) : Int) ∧ ((bestK (ordS R m.length r) (fnO m.length r) : Nat) : Int) ≤ 9223372036854775807
      omega
     have KCF : Hid (∀ pa pc ea ec wx, Calls Tryz.prog 145 #[subV ⟨q0.k, q0.o, (wst : Int), q0.p, q0.h, q0.C, rc⟩ ca cc pa pc ea ec] wx fun e w' => e = .returned (.int .i64 (cf : Int)) ∧ Below wx.heap.size wx w') := fun pa pc ea ec wx => z_coefsBits ⟨q0.k, q0.o, (wst : Int), q0.p, q0.h, q0.C, rc⟩ ca cc pa pc ea ec (cf : Int) hcf (by omega) hop wx
     have KCO : Hid (∀ pa pc ea ec wx, Calls Tryz.prog 141 #[subV ⟨q0.k, q0.o, (wst : Int), q0.p, q0.h, q0.C, rc⟩ ca cc pa pc ea ec, .int .i64 ((p : Int) + (cf : Int) + (nb : Int))] wx fun e w' => ∃ g, e = .returned (.agg #[.int .i64 0, .slice (some ⟨g, 0, none⟩) 1 1, .int .i64 (N : Int)]) ∧ w'.heap[g]? = some (.cells (subC ⟨q0.k, q0.o, (wst : Int), q0.p, q0.h, q0.C, rc⟩ ca cc pa pc ea ec) 27 (0, 0)) ∧ wx.heap.size ≤ g ∧ Below wx.heap.size wx w') := fun pa pc ea ec wx => by
      have k := z_codingOf ⟨q0.k, q0.o, (wst : Int), q0.p, q0.h, q0.C, rc⟩ ca cc pa pc ea ec ((p : Int) + (cf : Int) + (nb : Int)) (by show I64 (8 + (wst : Int) + ((p : Int) + (cf : Int) + (nb : Int))); omega) (by show I64 (8 + (wst : Int)); omega) wx
      have e : (8 : Int) + (⟨q0.k, q0.o, (wst : Int), q0.p, q0.h, q0.C, rc⟩ : Sb).w + ((p : Int) + (cf : Int) + (nb : Int)) = (N : Int) := by show 8 + (wst : Int) + ((p : Int) + (cf : Int) + (nb : Int)) = (N : Int); omega
      rw [e] at k
      exact k
     have HPM : Hid (IntKind.i64.wrap (q0.o * (u : Int)) = (p : Int)) := by show _ = _; rw [hpm, wrap_is]; exact wid _ (by omega)
     have HP8 : Hid (IntKind.i64.wrap ((p : Int) + (cf : Int)) = (p : Int) + (cf : Int)) := by show _ = _; rw [wrap_is]; exact wid _ (by omega)
     have HP9 : Hid (IntKind.i64.wrap ((p : Int) + (cf : Int) + (nb : Int)) = (p : Int) + (cf : Int) + (nb : Int)) := by show _ = _; rw [wrap_is]; exact wid _ (by omega)
     have hnb1 := hbd.1
     have hbp := hbd.2.1
     have hbc := hbd.2.2
     clear hd1 hl1 hsh hrc hpm hcf hop hN hbd HKL
     go_wp2_with fail
     refine KL.mono ?_
     rintro e w2 ⟨la2, lc2, rfl, hmd⟩
     have hb2 : Below wa.heap.size wa w2 := hmd.below
     have HMD : Hid (Made wa la2 lc2 R w2) := hmd
     have HBWb : Hid (Below wr.heap.size wr w2) := HBWa.out.trans (hb2.mono HBWa.out.size)
     have HBXb : Hid (w2.heap[wr.heap.size]? = some (.cells (subC q0 ca cc none 0 none 0) 27 (0, 0))) := by show _ = _; rw [Below.block hb2 _ (lt_of_block HBXa.out)]; exact HBXa.out
     clear HBXa HBWa
     clear hb2 hmd KL y0 y1 y2 y3 y4 y5 y6 y7 y8 y9
     obtain ⟨y0, y1, y2, y3, y4, y5, y6, y7, y8, y9⟩ := sub_cells HBXb.out
     go_wp2_with fail
     refine (KBs.out w2 la2 lc2 HMD.out).mono ?_
     rintro e w3 ⟨gp, ge, pc, rfl, hpe, hgpe, hb3⟩
     have hsl := lt_of_block HBXb.out
     have HGE : Hid (wr.heap.size < gp ∧ wr.heap.size < ge) := ⟨by omega, by omega⟩
     have hb4 : Below w2.heap.size w2 (w3.alloc (.cells (riceC rc (some ⟨gp, 0, none⟩) pc (some ⟨ge, 0, none⟩) pc) 25)) := hb3.alloc hb3.size _
     have HBWc : Hid (Below wr.heap.size wr (w3.alloc (.cells (riceC rc (some ⟨gp, 0, none⟩) pc (some ⟨ge, 0, none⟩) pc) 25))) := HBWb.out.trans (hb4.mono HBWb.out.size)
     have HBXc : Hid ((w3.alloc (.cells (riceC rc (some ⟨gp, 0, none⟩) pc (some ⟨ge, 0, none⟩) pc) 25)).heap[wr.heap.size]? = some (.cells (subC q0 ca cc none 0 none 0) 27 (0, 0))) := by show _ = _; rw [Below.block hb4 _ (lt_of_block HBXb.out)]; exact HBXb.out
     clear HBXb HBWb
     have HPEc : Hid (IntsAt (w3.alloc (.cells (riceC rc (some ⟨gp, 0, none⟩) pc (some ⟨ge, 0, none⟩) pc) 25)) (some ⟨gp, 0, none⟩) rc.P ∧ IntsAt (w3.alloc (.cells (riceC rc (some ⟨gp, 0, none⟩) pc (some ⟨ge, 0, none⟩) pc) 25)) (some ⟨ge, 0, none⟩) rc.E) := ⟨hpe.1.below ((Below.refl _ _).alloc (Nat.le_refl _) _), hpe.2.below ((Below.refl _ _).alloc (Nat.le_refl _) _)⟩
     have HRBc : Hid ((w3.alloc (.cells (riceC rc (some ⟨gp, 0, none⟩) pc (some ⟨ge, 0, none⟩) pc) 25)).heap[w3.heap.size]? = some (.cells (riceC rc (some ⟨gp, 0, none⟩) pc (some ⟨ge, 0, none⟩) pc) 25 (0, 0))) := heap_alloc_new _ _
     have HNE : Hid (w3.heap.size ≠ wr.heap.size) := fun e => by have h3 := hb3.size; omega
     clear hpe hgpe hb3 hb4 hsl HMD KBs y0 y1 y2 y3 y4 y5 y6 y7 y8 y9
     go_upto_region 11 with fail
     generalize hw4 : World.alloc _ _ = w4 at *
     generalize hrB : w3.heap.size = rB at *
     clear hw4 hrB
     have hbn : ((nb : Int) == -1) = false := by rw [beq_eq_false_iff_ne]; omega
     obtain ⟨y0, y1, y2, y3, y4, y5, y6, y7, y8, y9⟩ := sub_cells HBXc.out
     have r0 : w4.cell? ⟨rB, 0, none⟩ = some (.int .i64 rc.m) := by rw [cell_of_row _ _ _ _ _ _ HRBc.out]; rfl
     have r1 : w4.cell? ⟨rB, 1, none⟩ = some (.int .i64 rc.o) := by rw [cell_of_row _ _ _ _ _ _ HRBc.out]; rfl
     have r2 : w4.cell? ⟨rB, 2, none⟩ = some (.slice (some ⟨gp, 0, none⟩) rc.P.length pc) := by rw [cell_of_row _ _ _ _ _ _ HRBc.out]; rfl
     have r3 : w4.cell? ⟨rB, 3, none⟩ = some (.slice (some ⟨ge, 0, none⟩) rc.E.length pc) := by rw [cell_of_row _ _ _ _ _ _ HRBc.out]; rfl
     have fz2 := row_frozen HBXc.out 2
     have fz6 := row_frozen HBXc.out 6
     have fz7 := row_frozen HBXc.out 7
     have fz8 := row_frozen HBXc.out 8
     have fz9 := row_frozen HBXc.out 9
     have hne := HNE.out
     have hne2 : ¬ wr.heap.size = rB := fun e => hne e.symm
     have HBX5 : Hid ((((((w4.setCell ⟨wr.heap.size, 2, none⟩ (.int .i64 (wst : Int))).setCell ⟨wr.heap.size, 6, none⟩ (.int .i64 rc.m)).setCell ⟨wr.heap.size, 7, none⟩ (.int .i64 rc.o)).setCell ⟨wr.heap.size, 8, none⟩ (.slice (some ⟨gp, 0, none⟩) rc.P.length pc)).setCell ⟨wr.heap.size, 9, none⟩ (.slice (some ⟨ge, 0, none⟩) rc.E.length pc)).drew.heap[wr.heap.size]? = some (.cells (subC ⟨q0.k, q0.o, (wst : Int), q0.p, q0.h, q0.C, rc⟩ ca cc (some ⟨gp, 0, none⟩) pc (some ⟨ge, 0, none⟩) pc) 27 (0, 0))) := set5_a _ _ _ _ _ _ HBXc.out
     have HBW5 : Hid (Below wr.heap.size wr (((((w4.setCell ⟨wr.heap.size, 2, none⟩ (.int .i64 (wst : Int))).setCell ⟨wr.heap.size, 6, none⟩ (.int .i64 rc.m)).setCell ⟨wr.heap.size, 7, none⟩ (.int .i64 rc.o)).setCell ⟨wr.heap.size, 8, none⟩ (.slice (some ⟨gp, 0, none⟩) rc.P.length pc)).setCell ⟨wr.heap.size, 9, none⟩ (.slice (some ⟨ge, 0, none⟩) rc.E.length pc)).drew) := (set5_b _ _ _ _ _ _ wr (Nat.le_refl _) HBWc.out).drew
     have HPE5 : Hid (IntsAt (((((w4.setCell ⟨wr.heap.size, 2, none⟩ (.int .i64 (wst : Int))).setCell ⟨wr.heap.size, 6, none⟩ (.int .i64 rc.m)).setCell ⟨wr.heap.size, 7, none⟩ (.int .i64 rc.o)).setCell ⟨wr.heap.size, 8, none⟩ (.slice (some ⟨gp, 0, none⟩) rc.P.length pc)).setCell ⟨wr.heap.size, 9, none⟩ (.slice (some ⟨ge, 0, none⟩) rc.E.length pc)).drew (some ⟨gp, 0, none⟩) rc.P ∧ IntsAt (((((w4.setCell ⟨wr.heap.size, 2, none⟩ (.int .i64 (wst : Int))).setCell ⟨wr.heap.size, 6, none⟩ (.int .i64 rc.m)).setCell ⟨wr.heap.size, 7, none⟩ (.int .i64 rc.o)).setCell ⟨wr.heap.size, 8, none⟩ (.slice (some ⟨gp, 0, none⟩) rc.P.length pc)).setCell ⟨wr.heap.size, 9, none⟩ (.slice (some ⟨ge, 0, none⟩) rc.E.length pc)).drew (some ⟨ge, 0, none⟩) rc.E) := ⟨ints_set HPEc.out.1 (blk_ge HGE.out.1) (fun k hk => set5_d _ _ _ _ _ _ k (by omega)), ints_set HPEc.out.2 (blk_ge HGE.out.2) (fun k hk => set5_d _ _ _ _ _ _ k (by omega))⟩
     go_upto_region 12 with fail
     go_region
     generalize hw5 : World.drew _ = w5 at *
     clear hw5 y0 y1 y2 y3 y4 y5 y6 y7 y8 y9 r0 r1 r2 r3 fz2 fz6 fz7 fz8 fz9 hne hne2 HBXc HBWc HPEc HRBc HNE hbn
     go_upto_region 13 with fail
     refine wp_region_held_drew (S := fun wx => wx.heap[wr.heap.size]? = some (.cells (subC ⟨q0.k, q0.o, (wst : Int), q0.p, q0.h, q0.C, rc⟩ ca cc (some ⟨gp, 0, none⟩) pc (some ⟨ge, 0, none⟩) pc) 27 (0, 0))) (by kernel_rfl) HBX5.out (fun hS => ?_)
     refine wpAnyH_take (i := 0) (v := (.slice oa L.length oc)) rfl (by kernel_rfl) (by kernel_rfl) (by kernel_rfl) (fun _ _ _ h => h) (Or.inl ⟨by rfl, fun w hSw => by go_simp⟩) hS ?_
     simp only [Act.put, List.getElem_toArray, List.getElem_cons_succ, List.getElem_cons_zero, List.setIfInBounds_toArray, List.set_cons_zero, List.set_cons_succ]
     refine wpAnyH_take (i := 1) (v := (subV ⟨q0.k, q0.o, (wst : Int), q0.p, q0.h, q0.C, rc⟩ ca cc (some ⟨gp, 0, none⟩) pc (some ⟨ge, 0, none⟩) pc)) rfl (by kernel_rfl) (by kernel_rfl) (by kernel_rfl) (fun _ _ _ h => h) (Or.inl ⟨by rfl, fun w hSw => by obtain ⟨y0, y1, y2, y3, y4, y5, y6, y7, y8, y9⟩ := sub_cells hSw; go_simp⟩) hS ?_
     simp only [Act.put, List.getElem_toArray, List.getElem_cons_succ, List.getElem_cons_zero, List.setIfInBounds_toArray, List.set_cons_zero, List.set_cons_succ]
     refine wpAnyH_take (i := 2) (v := .pointer (some ⟨wr.heap.size, 1, none⟩)) rfl (by kernel_rfl) (by kernel_rfl) (by kernel_rfl) (fun _ _ _ h => h) (Or.inl ⟨by rfl, fun w hSw => by go_simp⟩) hS ?_
     simp only [Act.put, List.getElem_toArray, List.getElem_cons_succ, List.getElem_cons_zero, List.setIfInBounds_toArray, List.set_cons_zero, List.set_cons_succ]
     refine wpAnyH_take (i := 3) (v := .int .i64 q0.o) rfl (by kernel_rfl) (by kernel_rfl) (by kernel_rfl) (fun _ _ _ h => h) (Or.inl ⟨by rfl, fun w hSw => by obtain ⟨y0, y1, y2, y3, y4, y5, y6, y7, y8, y9⟩ := sub_cells hSw; go_simp⟩) hS ?_
     simp only [Act.put, List.getElem_toArray, List.getElem_cons_succ, List.getElem_cons_zero, List.setIfInBounds_toArray, List.set_cons_zero, List.set_cons_succ]
     refine wpAnyH_take (i := 4) (v := .int .i64 (u : Int)) rfl (by kernel_rfl) (by kernel_rfl) (by kernel_rfl) (fun _ _ _ h => h) (Or.inl ⟨by rfl, fun w hSw => by go_simp⟩) hS ?_
     simp only [Act.put, List.getElem_toArray, List.getElem_cons_succ, List.getElem_cons_zero, List.setIfInBounds_toArray, List.set_cons_zero, List.set_cons_succ]
     refine wpAnyH_take (i := 5) (v := .int .i64 (p : Int)) rfl (by kernel_rfl) (by kernel_rfl) (by kernel_rfl) (fun _ _ _ h => h) (Or.inl ⟨by rfl, fun w hSw => by have hpm := HPM.out; go_simp⟩) hS ?_
     simp only [Act.put, List.getElem_toArray, List.getElem_cons_succ, List.getElem_cons_zero, List.setIfInBounds_toArray, List.set_cons_zero, List.set_cons_succ]
     refine wpAnyH_take (i := 6) (v := (subV ⟨q0.k, q0.o, (wst : Int), q0.p, q0.h, q0.C, rc⟩ ca cc (some ⟨gp, 0, none⟩) pc (some ⟨ge, 0, none⟩) pc)) rfl (by kernel_rfl) (by kernel_rfl) (by kernel_rfl) (fun _ _ _ h => h) (Or.inl ⟨by rfl, fun w hSw => by obtain ⟨y0, y1, y2, y3, y4, y5, y6, y7, y8, y9⟩ := sub_cells hSw; go_simp⟩) hS ?_
     simp only [Act.put, List.getElem_toArray, List.getElem_cons_succ, List.getElem_cons_zero, List.setIfInBounds_toArray, List.set_cons_zero, List.set_cons_succ]
     refine wpAnyH_take (i := 9) (v := .int .i64 (nb : Int)) rfl (by kernel_rfl) (by kernel_rfl) (by kernel_rfl) (fun _ _ _ h => h) (Or.inl ⟨by rfl, fun w hSw => by go_simp⟩) hS ?_
     simp only [Act.put, List.getElem_toArray, List.getElem_cons_succ, List.getElem_cons_zero, List.setIfInBounds_toArray, List.set_cons_zero, List.set_cons_succ]
     refine wpAnyH_ready (rs := [7]) (by kernel_rfl) (by simp) ?_
     refine AllReadyH.cons rfl (fun K hK => ?_) AllReadyH.nil
     go_simp
     refine (KCF.out (some ⟨gp, 0, none⟩) pc (some ⟨ge, 0, none⟩) pc _).mono ?_
     rintro en w6 ⟨rfl, hb6⟩
     have HBX6 : Hid (w6.heap[wr.heap.size]? = some (.cells (subC ⟨q0.k, q0.o, (wst : Int), q0.p, q0.h, q0.C, rc⟩ ca cc (some ⟨gp, 0, none⟩) pc (some ⟨ge, 0, none⟩) pc) 27 (0, 0))) := by show _ = _; rw [hb6.block _ (lt_of_block hS)]; exact hS
     refine hK.out _ _ HBX6.out (fun hS6 => ?_)
     clear hK K
     try simp only [Act.put, List.getElem_toArray, List.getElem_cons_succ, List.getElem_cons_zero, List.setIfInBounds_toArray, List.set_cons_zero, List.set_cons_succ]
     refine wpAnyH_take (i := 8) (v := .int .i64 ((p : Int) + (cf : Int))) rfl (by kernel_rfl) (by kernel_rfl) (by kernel_rfl) (fun _ _ _ h => h) (Or.inl ⟨by rfl, fun w hSw => by go_simp; exact HP8.out⟩) hS6 ?_
     simp only [Act.put, List.getElem_toArray, List.getElem_cons_succ, List.getElem_cons_zero, List.setIfInBounds_toArray, List.set_cons_zero, List.set_cons_succ]
     refine wpAnyH_take (i := 10) (v := .int .i64 ((p : Int) + (cf : Int) + (nb : Int))) rfl (by kernel_rfl) (by kernel_rfl) (by kernel_rfl) (fun _ _ _ h => h) (Or.inl ⟨by rfl, fun w hSw => by go_simp; exact HP9.out⟩) hS6 ?_
     simp only [Act.put, List.getElem_toArray, List.getElem_cons_succ, List.getElem_cons_zero, List.setIfInBounds_toArray, List.set_cons_zero, List.set_cons_succ]
     refine wpAnyH_ready (rs := [11]) (by kernel_rfl) (by simp) ?_
     refine AllReadyH.cons rfl (fun K hK => ?_) AllReadyH.nil
     go_simp
     refine (KCO.out (some ⟨gp, 0, none⟩) pc (some ⟨ge, 0, none⟩) pc _).mono ?_
     rintro en w7 ⟨gN, rfl, hgN, hgeN, hb7⟩
     have HBX7 : Hid (w7.heap[wr.heap.size]? = some (.cells (subC ⟨q0.k, q0.o, (wst : Int), q0.p, q0.h, q0.C, rc⟩ ca cc (some ⟨gp, 0, none⟩) pc (some ⟨ge, 0, none⟩) pc) 27 (0, 0))) := by show _ = _; rw [hb7.block _ (lt_of_block hS6)]; exact hS6
     refine hK.out _ _ HBX7.out (fun hS7 => ?_)
     clear hK K
     try simp only [Act.put, List.getElem_toArray, List.getElem_cons_succ, List.getElem_cons_zero, List.setIfInBounds_toArray, List.set_cons_zero, List.set_cons_succ]
     have HBW6 : Hid (Below wr.heap.size wr w6) := HBW5.out.drew.trans (hb6.mono HBW5.out.size)
     have HBW7 : Hid (Below wr.heap.size wr w7) := HBW6.out.trans (hb7.mono HBW6.out.size)
     have HPE7 : Hid (IntsAt w7 (some ⟨gp, 0, none⟩) rc.P ∧ IntsAt w7 (some ⟨ge, 0, none⟩) rc.E) := ⟨((HPE5.out.1.below (Below.refl _ _).drew).below hb6).below hb7, ((HPE5.out.2.below (Below.refl _ _).drew).below hb6).below hb7⟩
     have HNG : Hid (wr.heap.size ≤ gN) := Nat.le_trans HBW6.out.size hgeN
     have HGN : Hid (w7.heap[gN]? = some (.cells (subC ⟨q0.k, q0.o, (wst : Int), q0.p, q0.h, q0.C, rc⟩ ca cc (some ⟨gp, 0, none⟩) pc (some ⟨ge, 0, none⟩) pc) 27 (0, 0))) := hgN
     clear HBW5 HPE5 HBX5 HBW6 hb6 hb7 hgeN hgN HBX6 HBX7
     have HBX8 : Hid ((w7.alloc (.cells #[.int .i64 0, .slice (some ⟨gN, 0, none⟩) 1 1, .int .i64 (N : Int)] 63)).heap[wr.heap.size]? = some (.cells (subC ⟨q0.k, q0.o, (wst : Int), q0.p, q0.h, q0.C, rc⟩ ca cc (some ⟨gp, 0, none⟩) pc (some ⟨ge, 0, none⟩) pc) 27 (0, 0))) := by show _ = _; rw [Below.block ((Below.refl _ _).alloc (Nat.le_refl _) _) _ (lt_of_block hS7)]; exact hS7
     have HBW8 : Hid (Below wr.heap.size wr (w7.alloc (.cells #[.int .i64 0, .slice (some ⟨gN, 0, none⟩) 1 1, .int .i64 (N : Int)] 63))) := HBW7.out.alloc HBW7.out.size _
     have HOWN : Hid (∀ k, Value.ownBlock (.slice oa L.length oc) = some k → k < wr.heap.size) := HCL.out.own_lt
     have HC8 : Hid (COff (.slice oa L.length oc) (w7.alloc (.cells #[.int .i64 0, .slice (some ⟨gN, 0, none⟩) 1 1, .int .i64 (N : Int)] 63)) (⟨⟨q0.k, q0.o, (wst : Int), q0.p, q0.h, q0.C, rc⟩, N, gN, ca, cc, (some ⟨gp, 0, none⟩), pc, (some ⟨ge, 0, none⟩), pc⟩ : Cd)) := by
      have i8 := (HIC.out.low HBW8.out)
      obtain ⟨z1, z2, z3, z4⟩ := HI64.out q0 HPLM.out
      refine ⟨⟨by rw [Below.block ((Below.refl _ _).alloc (Nat.le_refl _) _) _ (lt_of_block HGN.out)]; exact HGN.out, ⟨i8.i, ⟨HPE7.out.1.below ((Below.refl _ _).alloc (Nat.le_refl _) _), HPE7.out.2.below ((Below.refl _ _).alloc (Nat.le_refl _) _), HRCB.out.1, HRCB.out.2.1, HRCB.out.2.2.1, HRCB.out.2.2.2⟩, z1, z2, by show I64 (wst : Int); omega, z3, z4⟩, HCC.out⟩, ⟨Nat.lt_of_lt_of_le (lt_of_block HGN.out) (by simp), fun e => ?_⟩, i8, ?_, ?_⟩
      ·have h1 := HOWN.out gN e
       have h2 := HNG.out
       omega
      ·exact (HPE7.out.1.below ((Below.refl _ _).alloc (Nat.le_refl _) _)).off HOWN.out (fun h0 b hb => Nat.le_of_lt (blk_ge HGE.out.1 h0 b hb))
      ·exact (HPE7.out.2.below ((Below.refl _ _).alloc (Nat.le_refl _) _)).off HOWN.out (fun h0 b hb => Nat.le_of_lt (blk_ge HGE.out.2 h0 b hb))
     have HF8 : Hid (FrC w1.heap.size (⟨⟨q0.k, q0.o, (wst : Int), q0.p, q0.h, q0.C, rc⟩, N, gN, ca, cc, (some ⟨gp, 0, none⟩), pc, (some ⟨ge, 0, none⟩), pc⟩ : Cd)) := by
      have h1 := HCL.out.below.size
      exact ⟨Nat.le_trans h1 HNG.out, HFC.out, fun h0 b hb => Nat.le_trans h1 (Nat.le_of_lt (blk_ge HGE.out.1 h0 b hb)), fun h0 b hb => Nat.le_trans h1 (Nat.le_of_lt (blk_ge HGE.out.2 h0 b hb))⟩
     have HCL8 : Hid (CL w1 (.slice oa L.length oc) L (w7.alloc (.cells #[.int .i64 0, .slice (some ⟨gN, 0, none⟩) 1 1, .int .i64 (N : Int)] 63))) := HCL.out.low HBW8.out
     have HPT8 : Hid (PT (.slice oa L.length oc) gT (.cells cs 27 (0, 0)) LT (w7.alloc (.cells #[.int .i64 0, .slice (some ⟨gN, 0, none⟩) 1 1, .int .i64 (N : Int)] 63))) := HPT.out.low HBW8.out
     refine wpAnyH_ready (rs := [12]) (by kernel_rfl) (by simp) ?_
     refine AllReadyH.cons rfl (fun K hK => ?_) AllReadyH.nil
     go_simp
     refine hK.out _ _ HBX8.out (fun hS8 => ?_)
     clear hK K
     try simp only [Act.put, List.getElem_toArray, List.getElem_cons_succ, List.getElem_cons_zero, List.setIfInBounds_toArray, List.set_cons_zero, List.set_cons_succ]
     refine wpAnyH_ready (rs := [13]) (by kernel_rfl) (by simp) ?_
     refine AllReadyH.cons rfl (fun K hK => ?_) AllReadyH.nil
     refine step_append_lies _ (by rfl) _ _ _ (by rfl) w1.heap.size 63 iC (.agg #[.int .i64 0, .slice none 0 0, .int .i64 0]) 3 40 undCods hCa hCb hCc hCd rfl (by omega) (.slice oa L.length oc) L.length (rowD L) (by rfl) HCL8.out.own ⟨w7.heap.size, 0, none⟩ 1 1 (#[.int .i64 0, .slice (some ⟨gN, 0, none⟩) 1 1, .int .i64 (N : Int)]).toList (by rfl) (by rfl) (World.news_of_block (cs := #[.int .i64 0, .slice (some ⟨gN, 0, none⟩) 1 1, .int .i64 (N : Int)]) (t := 63) (fr := (0, 0)) (heap_alloc_new _ _)) (by intro u hu; simp at hu; rcases hu with h | h | h <;> (rw [h]; rfl)) (by omega) (by unfold maxLen; omega) (by omega) HCL8.out.below.size _ rfl ?_
     intro gB cB wB ownB groB hatB hltB
     have HPA : Hid (CL w1 (.slice (some ⟨gB, 0, none⟩) (L.length + 1) cB) (L ++ [(⟨⟨q0.k, q0.o, (wst : Int), q0.p, q0.h, q0.C, rc⟩, N, gN, ca, cc, (some ⟨gp, 0, none⟩), pc, (some ⟨ge, 0, none⟩), pc⟩ : Cd)]) wB) := HCL8.out.push (⟨⟨q0.k, q0.o, (wst : Int), q0.p, q0.h, q0.C, rc⟩, N, gN, ca, cc, (some ⟨gp, 0, none⟩), pc, (some ⟨ge, 0, none⟩), pc⟩ : Cd) HC8.out HF8.out ownB groB hatB
     have HPB : Hid (PT (.slice (some ⟨gB, 0, none⟩) (L.length + 1) cB) gT (.cells cs 27 (0, 0)) LT wB) := HPT8.out.push groB hatB
     have HBX9 : Hid (wB.heap[wr.heap.size]? = some (.cells (subC ⟨q0.k, q0.o, (wst : Int), q0.p, q0.h, q0.C, rc⟩ ca cc (some ⟨gp, 0, none⟩) pc (some ⟨ge, 0, none⟩) pc) 27 (0, 0))) := by
      show _ = _
      rw [groB.block _ (lt_of_block hS8) (fun e => by have := HOWN.out _ e.symm; omega)]; exact hS8
     refine hK.out _ _ HBX9.out (fun hS9 => ?_)
     clear hK K ownB groB hatB hltB
     try simp only [Act.put, List.getElem_toArray, List.getElem_cons_succ, List.getElem_cons_zero, List.setIfInBounds_toArray, List.set_cons_zero, List.set_cons_succ]
     refine wpAnyH_take (i := 14) (v := .slice (some ⟨gB, 0, none⟩) (L.length + 1) cB) rfl (by kernel_rfl) (by kernel_rfl) (by kernel_rfl) (fun _ _ _ h => h) (Or.inl ⟨by rfl, fun w hSw => by go_simp⟩) hS9 ?_
     simp only [Act.put, List.getElem_toArray, List.getElem_cons_succ, List.getElem_cons_zero, List.setIfInBounds_toArray, List.set_cons_zero, List.set_cons_succ]
     refine wpAnyH_done (by kernel_rfl) ?_ _
     have HM9 : Hid ((L ++ [(⟨⟨q0.k, q0.o, (wst : Int), q0.p, q0.h, q0.C, rc⟩, N, gN, ca, cc, (some ⟨gp, 0, none⟩), pc, (some ⟨ge, 0, none⟩), pc⟩ : Cd)]).map cdP = DL (i + 1)) := by show _ = _; rw [List.map_append, HMP.out, HDE.out]; rfl
     clear hS9 HMP HDE
     go_wp2_with fail
     go_roundw
     case rel => exact ⟨i + 1, _, _, by omega, by go_num, rfl, HPA.out, HM9.out, HPB.out⟩
     case measure => simp [intOf]; omega
   ·have hil : i = LT.length := by omega
    have HEND : Hid (DL i = DL (trL lv (wst : Int)).length) := by show _ = _; rw [hil, HTL.out, HLEN.out.1]
    clear hil
    go_wp2_with fail
    go_ret
    exact ⟨oa, oc, L, rfl, HCL.out, by rw [HMP.out]; exact HEND.out⟩
def orN (l : List Int) : Nat → Nat
 | 0 => 0
 | n + 1 => orN l n ||| (l.getD n 0 % 18446744073709551616).toNat
theorem u64_lt (x : Int) : (x % 18446744073709551616).toNat < 18446744073709551616 := by omega
theorem orN_lt (l : List Int) (n : Nat) : orN l n < 18446744073709551616 := by
 induction n with
 | zero => show 0 < 18446744073709551616; decide
 | succ n ih => exact Nat.or_lt_two_pow (n := 64) ih (u64_lt _)
theorem u64_dv (x : Int) (k : Nat) (hk : k ≤ 64) : (x % 18446744073709551616).toNat % 2 ^ k = 0 ↔ x % ((2 ^ k : Nat) : Int) = 0 := by
 have hd : ((2 ^ k : Nat) : Int) ∣ ((2 ^ 64 : Nat) : Int) := Int.natCast_dvd_natCast.2 (Nat.pow_dvd_pow 2 hk)
 have e : (((x % 18446744073709551616).toNat % 2 ^ k : Nat) : Int) = x % ((2 ^ k : Nat) : Int) := by
  rw [Int.natCast_emod, Int.toNat_of_nonneg (Int.emod_nonneg _ (by decide))]
  exact Int.emod_emod_of_dvd x hd
 rw [← e]
 exact Int.natCast_eq_zero.symm
theorem orN_dv (l : List Int) (k : Nat) (hk : k ≤ 64) (n : Nat) : orN l n % 2 ^ k = 0 ↔ ∀ j, j < n → l.getD j 0 % ((2 ^ k : Nat) : Int) = 0 := by
 induction n with
 | zero => exact ⟨fun _ j hj => absurd hj (Nat.not_lt_zero _), fun _ => Nat.zero_mod _⟩
 | succ n ih =>
  unfold orN
  rw [Nat.or_mod_two_pow, Nat.or_eq_zero_iff, ih, u64_dv _ k hk]
  constructor
  ·intro h j hj
   by_cases e : j = n
   ·rw [e]; exact h.2
   ·exact h.1 j (by omega)
  ·intro h
   exact ⟨fun j hj => h j (by omega), h n (by omega)⟩
theorem dvB_or (l : List Int) (k : Nat) (hk : k ≤ 64) : dvB l k = true ↔ orN l l.length % 2 ^ k = 0 := by
 rw [dvB_iff, orN_dv l k hk]
 have e : ((2 ^ k : Nat) : Int) = (2 : Int) ^ k := by simp
 rw [e]
 constructor
 ·intro h j hj
  refine h _ ?_
  rw [List.getD_eq_getElem?_getD, List.getElem?_eq_getElem hj]; exact List.getElem_mem hj
 ·intro h n hn
  obtain ⟨j, hj, rfl⟩ := List.getElem_of_mem hn
  have := h j hj
  rw [List.getD_eq_getElem?_getD, List.getElem?_eq_getElem hj] at this
  exact this
theorem or_zero (l : List Int) (hr : Rng l) : orN l l.length = 0 ↔ zerB l = true := by
 have h64 := dvB_or l 64 (Nat.le_refl _)
 have hlt := orN_lt l l.length
 have e64 : (2 : Nat) ^ 64 = 18446744073709551616 := by decide
 rw [e64, Nat.mod_eq_of_lt hlt, dvB_iff] at h64
 rw [← h64]
 unfold zerB
 rw [List.all_eq_true]
 have ei : (2 : Int) ^ 64 = 18446744073709551616 := by decide
 constructor
 ·intro h n hn
  have h1 := h n hn
  have h2 := hr n hn
  rw [ei] at h1
  have : n = 0 := by omega
  simp [this]
 ·intro h n hn
  have h1 : n = 0 := by simpa using h n hn
  rw [h1]; exact Int.zero_emod _
theorem was_zero (l : List Int) (hr : Rng l) (h : orN l l.length = 0) : wasN l = 0 := by
 unfold wasN; rw [if_pos ((or_zero l hr).1 h)]
theorem was_ctz (l : List Int) (hr : Rng l) (h : orN l l.length ≠ 0) : wasN l = min (Go.Lib.ctz 64 (orN l l.length)) 31 := by
 unfold wasN
 rw [if_neg (fun hz => h ((or_zero l hr).2 hz))]
 have hlt := orN_lt l l.length
 obtain ⟨m, hm, hk⟩ := Go.Lib.ctzFrom_spec 64 (orN l l.length) (by omega) hlt
 have hc : Go.Lib.ctz 64 (orN l l.length) = Go.Lib.ctzFrom 64 (orN l l.length) := by unfold Go.Lib.ctz; rw [if_neg h]
 rw [hc]
 have D := fun k hk => dvB_or l k hk
 generalize Go.Lib.ctzFrom 64 (orN l l.length) = c at *
 refine wasK_is l _ 31 (Nat.min_le_right _ _) ?_ ?_
 ·rw [D _ (by omega), hm]
  refine Nat.mod_eq_zero_of_dvd (Nat.dvd_trans (Nat.pow_dvd_pow 2 (Nat.min_le_left c 31)) (Nat.dvd_mul_right _ _))
 ·by_cases h31 : 31 ≤ c
  ·exact Or.inl (by omega)
  ·refine Or.inr ?_
   have e : min c 31 = c := by omega
   rw [e]
   cases hb : dvB l (c + 1) with
   | false => rfl
   | true =>
    rw [D _ (by omega), hm, Nat.pow_succ] at hb
    have h2 : 2 ^ c * (2 * m + 1) % (2 ^ c * 2) = 2 ^ c * ((2 * m + 1) % 2) := Nat.mul_mod_mul_left _ _ _
    rw [h2] at hb
    have h3 : 0 < 2 ^ c := Nat.two_pow_pos c
    have h4 : (2 * m + 1) % 2 = 1 := by omega
    rw [h4, Nat.mul_one] at hb
    omega
def Tz (w : World) : Prop := TabAt 4 Go.Lib.deBruijn64tab w
theorem tab_len : Go.Lib.deBruijn64tab.length = 64 := by decide
theorem Tz.below {w w' : World} (h : Tz w) (hb : Below w.heap.size w w') : Tz w' := fun j hj => by
 rw [World.cell?_of_block (w := w) (hb.block 4 (lt_cell (h j hj)))]; exact h j hj
theorem u64_or (a : Nat) (x : Int) (ha : a < 18446744073709551616) : bits BinOp.or IntKind.u64 (a : Int) (x % 18446744073709551616) = ((a ||| (x % 18446744073709551616).toNat : Nat) : Int) := by
 have e : x % 18446744073709551616 = (((x % 18446744073709551616).toNat : Nat) : Int) := by omega
 conv => lhs; rw [e]
 exact bits_or_u64_nat a _ ha (u64_lt x)
theorem qgather_spec (l : List Int) (la : Option Addr) (lc : Nat) (w : World) (hl : IntsAt w la l) : Calls Tryz.prog 137 #[.slice la l.length lc] w fun e w' => e = .returned (.int .u64 (orN l l.length : Nat)) ∧ w' = w := by
 have h1 := hl.len
 have HL : Hid (IntsAt w la l) := hl
 clear hl
 go_enter Tryz.func137, Tryz.ntmps137
 go_wp2_with fail
 go_loopw [3, 5, 8] (fun s s5 t wr => ∃ k : Nat, k ≤ l.length ∧ t = .int .i64 (k : Int) ∧ s = .int .u64 (orN l k : Nat) ∧ wr = w) (fun _ _ t _ => l.length - (intOf t).toNat)
 case atStart => exact ⟨0, Nat.zero_le _, rfl, rfl, rfl⟩
 case round =>
  obtain ⟨k, hk, rfl, rfl, rfl⟩ := hrel
  by_cases hlt : k < l.length
  ·obtain ⟨b1, o1, rfl, q1⟩ := HL.out.at k hlt
   have r1 := q1 wr (Below.refl _ _)
   have HN : Hid (orN l (k + 1) = orN l k ||| (l.getD k 0 % 18446744073709551616).toNat) := rfl
   have hu := u64_or (orN l k) (l.getD k 0) (orN_lt l k)
   rw [← HN.out] at hu
   clear q1
   generalize l.getD k 0 = x at *
   generalize orN l k = su at *
   go_wp2_with fail
   go_roundw
   case rel => exact ⟨k + 1, by omega, by go_num, by rw [IntKind.wrap_u64, hu], trivial⟩
   case measure => simp [intOf]; omega
  ·have hke : k = l.length := by omega
   subst hke
   go_wp2_with fail
   go_ret
   exact ⟨rfl, rfl⟩
theorem tz64_core (x c ix : Nat) (w : World) (hx0 : ((x : Int) == 0) = false)
  (key : IntKind.u64.wrap (bits BinOp.and IntKind.u64 (x : Int) (IntKind.u64.wrap (-(x : Int))) * 285870213051353865) / 288230376151711744 = (ix : Int))
  (hi : ix < 64) (hk : c < 64) (hcell : w.cell? ⟨4, ix, none⟩ = some (.int .u8 (c : Int))) :
  Calls Tryz.prog 187 #[.int .u64 (x : Int)] w fun e w' => e = .returned (.int .i64 (c : Int)) ∧ w' = w := by
 go_enter Tryz.func187, Tryz.ntmps187
 go_wp2_with (simp only [key])
 go_ret
 exact ⟨rfl, rfl⟩
theorem tz64_spec (x : Nat) (hx0 : x ≠ 0) (hx : x < 18446744073709551616) (w : World) (hT : Tz w) : Calls Tryz.prog 187 #[.int .u64 (x : Int)] w fun e w' => e = .returned (.int .i64 (Go.Lib.ctz 64 x : Nat)) ∧ w' = w := by
 have e64 : (2 : Nat) ^ 64 = 18446744073709551616 := by decide
 have hq := Go.Lib.lowest_bit 64 x hx0 (by rw [e64]; exact hx)
 rw [e64] at hq
 have hd := Go.Lib.deBruijn64_at (Go.Lib.ctz 64 x) hq.2
 have hcell := hT _ (by rw [tab_len]; exact hd.1)
 rw [hd.2] at hcell
 exact tz64_core x (Go.Lib.ctz 64 x) _ w (by rw [beq_eq_false_iff_ne]; omega) (tz64_key x _ hx hx0 hq.1) hd.1 hq.2 hcell
theorem tz_spec (x : Nat) (hx0 : x ≠ 0) (hx : x < 18446744073709551616) (w : World) (hT : Tz w) : Calls Tryz.prog 138 #[.int .u64 (x : Int)] w fun e w' => e = .returned (.int .i64 (Go.Lib.ctz 64 x : Nat)) ∧ w' = w := by
 have kt := tz64_spec x hx0 hx w hT
 clear hT
 generalize Go.Lib.ctz 64 x = c at *
 go_enter Tryz.func138, Tryz.ntmps138
 go_wp2_with fail
 refine kt.mono ?_
 rintro e w2 ⟨rfl, hw2⟩
 subst hw2
 clear kt
 go_wp2_with fail
 go_ret
 exact ⟨rfl, rfl⟩
theorem qwasted_spec (l : List Int) (la : Option Addr) (lc : Nat) (w : World) (hT : Tz w) (hl : IntsAt w la l) : Calls Tryz.prog 73 #[.slice la l.length lc] w fun e w' => e = .returned (.int .i64 (wasN l : Int)) ∧ Below w.heap.size w w' := by
 have kg := qgather_spec l la lc w hl
 have hr : Rng l := hl.num
 by_cases h0 : orN l l.length = 0
 ·have HW : Hid (wasN l = 0) := was_zero l hr h0
  rw [h0] at kg
  clear h0 hr hl
  go_enter Tryz.func73, Tryz.ntmps73
  go_wp2_with fail
  refine kg.mono ?_
  rintro e w2 ⟨rfl, hw2⟩
  subst hw2
  clear kg
  go_wp2_with fail
  go_ret
  exact ⟨by rw [HW.out]; rfl, Below.refl _ _⟩
 ·have HW : Hid (wasN l = min (Go.Lib.ctz 64 (orN l l.length)) 31) := was_ctz l hr h0
  have kt := tz_spec _ h0 (orN_lt l l.length) w hT
  have hb0 : ((orN l l.length : Int) == 0) = false := by rw [beq_eq_false_iff_ne]; omega
  clear h0 hr hl hT
  generalize Go.Lib.ctz 64 (orN l l.length) = c at *
  generalize orN l l.length = a at *
  go_enter Tryz.func73, Tryz.ntmps73
  go_wp2_with fail
  refine kg.mono ?_
  rintro e w2 ⟨rfl, hw2⟩
  subst hw2
  clear kg
  go_wp2_with fail
  refine kt.mono ?_
  rintro e w3 ⟨rfl, hw3⟩
  subst hw3
  clear kt
  by_cases hc : c ≤ 31
  ·have HW2 : Hid (wasN l = c) := by show _ = _; rw [HW.out]; omega
   clear HW
   have hci : (c : Int) ≤ 31 := by omega
   go_wp2_with fail
   go_ret
   exact ⟨by rw [HW2.out]; rfl, Below.refl _ _⟩
  ·have HW2 : Hid (wasN l = 31) := by show _ = _; rw [HW.out]; omega
   clear HW
   have hci : 31 < (c : Int) := by omega
   go_wp2_with fail
   go_ret
   exact ⟨by rw [HW2.out]; rfl, Below.refl _ _⟩
end Go.Proofs.YthgpleelpeacjaaGreatDoor
