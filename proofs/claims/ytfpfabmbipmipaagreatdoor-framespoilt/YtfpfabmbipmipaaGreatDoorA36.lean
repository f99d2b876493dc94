/- Own text. -/
import Derived.Test.YtfpfabmbipmipaaGreatDoorA35
import Derived.Test.YtfpfabmbipmipaaGreatDoorA33
set_option linter.unusedSimpArgs false
set_option linter.unusedVariables false
set_option maxRecDepth 20000
set_option maxHeartbeats 12800000
namespace Go.Proofs.YtfpfabmbipmipaaGreatDoor
open Go.RowKit
theorem rng_inB (l : List Int) (v : Int) (hv : v <= 25) (h : ∀ x ∈ l, sigE x v = 0) (M : Int) (hM : 33554432 <= M) : inB l M = true := by
 rw [inB_iff]
 intro x hx
 obtain ⟨h1, h2, h3, h4⟩ := (sigE_iff x v).1 (h x hx)
 have hp : (2 : Nat) ^ (v.toNat - 1) <= 2 ^ 24 := Nat.pow_le_pow_right (by decide) (by omega)
 have e : (2 : Nat) ^ 24 = 16777216 := by decide
 rw [pow_int] at h3 h4
 omega
theorem f_coded_0 (P : List (List Int)) (po : OA) (pk : Nat) (w : World) : Calls Tryz.prog 22 #[.int .i64 0, .slice po P.length pk] w fun en w' => en = .returned (.slice po P.length pk) /\ w' = w := by
 go_enter Tryz.func22, Tryz.ntmps22
 go_wp2_with fail
 go_ret
 exact ⟨rfl, rfl⟩
theorem f_uncoded_0 (P : List (List Int)) (po : OA) (pk : Nat) (w : World) : Calls Tryz.prog 46 #[.int .i64 0, .slice po P.length pk] w fun en w' => en = .returned (.slice po P.length pk) /\ w' = w := by
 go_enter Tryz.func46, Tryz.ntmps46
 go_wp2_with fail
 go_ret
 exact ⟨rfl, rfl⟩
theorem grp4 : (∀ (mo : Int) (hm : 1 ≤ mo ∧ mo ≤ 3) (P : List (List Int)) (h2 : P.length = 2) (hlen : (P.getD 0 []).length = (P.getD 1 []).length) (hn : (P.getD 0 []).length ≤ 65535) (v : Int) (hv : v ≤ 25) (hs : ∀ l ∈ P, ∀ x ∈ l, sigE x v = 0) (po : Option Addr) (pk : Nat) (w : World) (hp : RowsAt w po P) (F : Nat → Prop) (hF : ∀ k, F k → k < w.heap.size), Calls Tryz.prog 22 #[.int .i64 mo, .slice po P.length pk] w fun en w' => ∃ ro rk, en = .returned (.slice ro 2 rk) ∧ RowsP F w' ro (chnL mo P) ∧ Below w.heap.size w w') /\ (∀ (mo : Int) (hm : 1 ≤ mo ∧ mo ≤ 3) (P : List (List Int)) (h2 : P.length = 2) (hlen : (P.getD 0 []).length = (P.getD 1 []).length) (hn : (P.getD 0 []).length ≤ 65535) (v : Int) (hv : v ≤ 25) (hs : ∀ l ∈ P, ∀ x ∈ l, sigE x v = 0) (po : Option Addr) (pk : Nat) (w : World) (hp : RowsAt w po P) (F : Nat → Prop) (hF : ∀ k, F k → k < w.heap.size), Calls Tryz.prog 46 #[.int .i64 mo, .slice po P.length pk] w fun en w' => ∃ ro rk, en = .returned (.slice ro 2 rk) ∧ RowsP F w' ro (plnL mo P) ∧ Below w.heap.size w w') := by
 refine ⟨?_, ?_⟩
 focus
  intro mo hm P h2 hlen hn v hv hs po pk w hp F hF
  obtain ⟨b, off, rfl, a0, k0, c0, d0, e0, i0⟩ := hp.at 0 (by omega)
  obtain ⟨b2, off2, hbo, a1, k1, c1, d1, e1, i1⟩ := hp.at 1 (by omega)
  have hbe : b2 = b ∧ off2 = off := by
   injection hbo with h
   injection h with h1 h2
   exact ⟨h1.symm, h2.symm⟩
  obtain ⟨rfl, rfl⟩ := hbe
  have hR : stR mo (P.getD 0 []) (P.getD 1 []) = some (zipN (stP mo.toNat) (P.getD 0 []) (P.getD 1 []) (P.getD 0 []).length, zipN (stQ mo.toNat) (P.getD 0 []) (P.getD 1 []) (P.getD 0 []).length) := by
   unfold stR
   rw [if_pos ⟨by omega, hlen, rng_inB _ v hv (hs _ (getD_mem' P 0 (by omega))) _ (by decide), rng_inB _ v hv (hs _ (getD_mem' P 1 (by omega))) _ (by decide)⟩]
  have hout : chnL mo P = [zipN (stP mo.toNat) (P.getD 0 []) (P.getD 1 []) (P.getD 0 []).length, zipN (stQ mo.toNat) (P.getD 0 []) (P.getD 1 []) (P.getD 0 []).length] := by unfold chnL; rw [if_neg (by omega)]
  have hks := fun wx (hb : Below w.heap.size w wx) => qstereo_spec mo (P.getD 0 []) (P.getD 1 []) a0 a1 k0 k1 wx (i0.below hb) (i1.below hb)
  rw [hR] at hks
  have hXn : (zipN (stP mo.toNat) (P.getD 0 []) (P.getD 1 []) (P.getD 0 []).length).length ≤ 65535 := by rw [zipN_len]; exact hn
  have hYn : (zipN (stQ mo.toNat) (P.getD 0 []) (P.getD 1 []) (P.getD 0 []).length).length ≤ 65535 := by rw [zipN_len]; exact hn
  rw [hout]
  have HC0 : Hid (∀ wx, Below w.heap.size w wx → wx.cell? ⟨b2, off2, none⟩ = some (.slice a0 (P.getD 0 []).length k0)) := fun wx hb => c0 wx hb
  have HC1 : Hid (∀ wx, Below w.heap.size w wx → wx.cell? ⟨b2, off2 + 1, none⟩ = some (.slice a1 (P.getD 1 []).length k1)) := fun wx hb => c1 wx hb
  have HF : Hid (∀ k, F k → k < w.heap.size) := hF
  have hne : (mo == 0) = false := by rw [beq_eq_false_iff_ne]; omega
  generalize zipN (stP mo.toNat) (P.getD 0 []) (P.getD 1 []) (P.getD 0 []).length = X at *
  generalize zipN (stQ mo.toNat) (P.getD 0 []) (P.getD 1 []) (P.getD 0 []).length = Y at *
  have KS : Hid (∀ wx, Below w.heap.size w wx → Calls Tryz.prog 66 #[.int .i64 mo, .slice a0 (P.getD 0 []).length k0, .slice a1 (P.getD 1 []).length k1] wx fun en w' => ∃ xa xc ya yc, en = .returned (.tuple #[.slice xa X.length xc, .slice ya Y.length yc, .int .i64 0]) ∧ (IntsAt w' xa X ∧ IntsAt w' ya Y ∧ Below wx.heap.size wx w') ∧ (X.length ≤ xc ∧ (xa = none → xc = 0)) ∧ (Y.length ≤ yc ∧ (ya = none → yc = 0)) ∧ Fr wx.heap.size xa ∧ Fr wx.heap.size ya) := hks
  clear c0 c1 d0 d1 e0 e1 i0 i1 hbo hR hks hout hs hp hF hlen
  have hp2 : (P.length : Int) = 2 := by omega
  generalize P.getD 0 [] = l0 at *
  generalize P.getD 1 [] = l1 at *
  rw [h2]
  clear h2 hp2
  go_enter Tryz.func22, Tryz.ntmps22
 rotate_left
 focus
  intro mo hm P h2 hlen hn v hv hs po pk w hp F hF
  obtain ⟨b, off, rfl, a0, k0, c0, d0, e0, i0⟩ := hp.at 0 (by omega)
  obtain ⟨b2, off2, hbo, a1, k1, c1, d1, e1, i1⟩ := hp.at 1 (by omega)
  have hbe : b2 = b ∧ off2 = off := by
   injection hbo with h
   injection h with h1 h2
   exact ⟨h1.symm, h2.symm⟩
  obtain ⟨rfl, rfl⟩ := hbe
  have hR : ustR mo (P.getD 0 []) (P.getD 1 []) = some (zipN (unP mo.toNat) (P.getD 0 []) (P.getD 1 []) (P.getD 0 []).length, zipN (unQ mo.toNat) (P.getD 0 []) (P.getD 1 []) (P.getD 0 []).length) := by
   unfold ustR
   rw [if_pos ⟨by omega, hlen, rng_inB _ v hv (hs _ (getD_mem' P 0 (by omega))) _ (by decide), rng_inB _ v hv (hs _ (getD_mem' P 1 (by omega))) _ (by decide)⟩]
  have hout : plnL mo P = [zipN (unP mo.toNat) (P.getD 0 []) (P.getD 1 []) (P.getD 0 []).length, zipN (unQ mo.toNat) (P.getD 0 []) (P.getD 1 []) (P.getD 0 []).length] := by unfold plnL; rw [if_neg (by omega)]
  have hks := fun wx (hb : Below w.heap.size w wx) => qunstereo_spec mo (P.getD 0 []) (P.getD 1 []) a0 a1 k0 k1 wx (i0.below hb) (i1.below hb)
  rw [hR] at hks
  have hXn : (zipN (unP mo.toNat) (P.getD 0 []) (P.getD 1 []) (P.getD 0 []).length).length ≤ 65535 := by rw [zipN_len]; exact hn
  have hYn : (zipN (unQ mo.toNat) (P.getD 0 []) (P.getD 1 []) (P.getD 0 []).length).length ≤ 65535 := by rw [zipN_len]; exact hn
  rw [hout]
  have HC0 : Hid (∀ wx, Below w.heap.size w wx → wx.cell? ⟨b2, off2, none⟩ = some (.slice a0 (P.getD 0 []).length k0)) := fun wx hb => c0 wx hb
  have HC1 : Hid (∀ wx, Below w.heap.size w wx → wx.cell? ⟨b2, off2 + 1, none⟩ = some (.slice a1 (P.getD 1 []).length k1)) := fun wx hb => c1 wx hb
  have HF : Hid (∀ k, F k → k < w.heap.size) := hF
  have hne : (mo == 0) = false := by rw [beq_eq_false_iff_ne]; omega
  generalize zipN (unP mo.toNat) (P.getD 0 []) (P.getD 1 []) (P.getD 0 []).length = X at *
  generalize zipN (unQ mo.toNat) (P.getD 0 []) (P.getD 1 []) (P.getD 0 []).length = Y at *
  have KS : Hid (∀ wx, Below w.heap.size w wx → Calls Tryz.prog 103 #[.int .i64 mo, .slice a0 (P.getD 0 []).length k0, .slice a1 (P.getD 1 []).length k1] wx fun en w' => ∃ xa xc ya yc, en = .returned (.tuple #[.slice xa X.length xc, .slice ya Y.length yc, .int .i64 0]) ∧ (IntsAt w' xa X ∧ IntsAt w' ya Y ∧ Below wx.heap.size wx w') ∧ (X.length ≤ xc ∧ (xa = none → xc = 0)) ∧ (Y.length ≤ yc ∧ (ya = none → yc = 0)) ∧ Fr wx.heap.size xa ∧ Fr wx.heap.size ya) := hks
  clear c0 c1 d0 d1 e0 e1 i0 i1 hbo hR hks hout hs hp hF hlen
  have hp2 : (P.length : Int) = 2 := by omega
  generalize P.getD 0 [] = l0 at *
  generalize P.getD 1 [] = l1 at *
  rw [h2]
  clear h2 hp2
  go_enter Tryz.func46, Tryz.ntmps46
 rotate_left
 all_goals
  go_wp2_with fail
  have HD : Hid (Below w.heap.size w w.drew) := (Below.refl _ _).drew
  refine wp_region_held_drew (S := fun wx => Below w.heap.size w wx) (by kernel_rfl) (HD.out) (fun hS => ?_)
  refine wpAnyH_take (i := 0) (v := .int .i64 mo) rfl (by kernel_rfl) (by kernel_rfl) (by kernel_rfl) (fun _ _ _ h => h) (Or.inl ⟨by rfl, fun w hSw => by go_simp⟩) hS ?_
  simp only [Act.put, List.getElem_toArray, List.getElem_cons_succ, List.getElem_cons_zero, List.setIfInBounds_toArray, List.set_cons_zero, List.set_cons_succ]
  refine wpAnyH_take (i := 1) (v := .slice (some ⟨b2, off2, none⟩) 2 pk) rfl (by kernel_rfl) (by kernel_rfl) (by kernel_rfl) (fun _ _ _ h => h) (Or.inl ⟨by rfl, fun w hSw => by go_simp⟩) hS ?_
  simp only [Act.put, List.getElem_toArray, List.getElem_cons_succ, List.getElem_cons_zero, List.setIfInBounds_toArray, List.set_cons_zero, List.set_cons_succ]
  refine wpAnyH_take (i := 2) (v := .pointer (some ⟨b2, off2, none⟩)) rfl (by kernel_rfl) (by kernel_rfl) (by kernel_rfl) (fun _ _ _ h => h) (Or.inl ⟨by rfl, fun w hSw => by go_simp⟩) hS ?_
  simp only [Act.put, List.getElem_toArray, List.getElem_cons_succ, List.getElem_cons_zero, List.setIfInBounds_toArray, List.set_cons_zero, List.set_cons_succ]
  refine wpAnyH_take (i := 3) (v := .slice a0 l0.length k0) rfl (by kernel_rfl) (by kernel_rfl) (by kernel_rfl) (fun _ _ _ h => h) (Or.inl ⟨by rfl, fun w hSw => by have r1 := HC0.out w hSw; go_simp⟩) hS ?_
  simp only [Act.put, List.getElem_toArray, List.getElem_cons_succ, List.getElem_cons_zero, List.setIfInBounds_toArray, List.set_cons_zero, List.set_cons_succ]
  refine wpAnyH_take (i := 4) (v := .slice (some ⟨b2, off2, none⟩) 2 pk) rfl (by kernel_rfl) (by kernel_rfl) (by kernel_rfl) (fun _ _ _ h => h) (Or.inl ⟨by rfl, fun w hSw => by go_simp⟩) hS ?_
  simp only [Act.put, List.getElem_toArray, List.getElem_cons_succ, List.getElem_cons_zero, List.setIfInBounds_toArray, List.set_cons_zero, List.set_cons_succ]
  refine wpAnyH_take (i := 5) (v := .pointer (some ⟨b2, off2 + 1, none⟩)) rfl (by kernel_rfl) (by kernel_rfl) (by kernel_rfl) (fun _ _ _ h => h) (Or.inl ⟨by rfl, fun w hSw => by go_simp⟩) hS ?_
  simp only [Act.put, List.getElem_toArray, List.getElem_cons_succ, List.getElem_cons_zero, List.setIfInBounds_toArray, List.set_cons_zero, List.set_cons_succ]
  refine wpAnyH_take (i := 6) (v := .slice a1 l1.length k1) rfl (by kernel_rfl) (by kernel_rfl) (by kernel_rfl) (fun _ _ _ h => h) (Or.inl ⟨by rfl, fun w hSw => by have r1 := HC1.out w hSw; go_simp⟩) hS ?_
  simp only [Act.put, List.getElem_toArray, List.getElem_cons_succ, List.getElem_cons_zero, List.setIfInBounds_toArray, List.set_cons_zero, List.set_cons_succ]
  refine wpAnyH_ready (rs := [7]) (by kernel_rfl) (by simp) ?_
  refine AllReadyH.cons rfl (fun K hK => ?_) AllReadyH.nil
  go_simp
  refine (KS.out _ hS).mono ?_
  rintro en w3 ⟨xa, xc, ya, yc, rfl, h3⟩
  have H3 : Hid _ := h3
  clear h3
  refine hK.out _ _ (hS.trans (H3.out.1.2.2.mono hS.size)) (fun hS3 => ?_)
  clear hK K
  try simp only [Act.put, List.getElem_toArray, List.getElem_cons_succ, List.getElem_cons_zero, List.setIfInBounds_toArray, List.set_cons_zero, List.set_cons_succ]
  refine wpAnyH_take (i := 8) (v := .tuple #[.slice xa X.length xc, .slice ya Y.length yc, .int .i64 0]) rfl (by kernel_rfl) (by kernel_rfl) (by kernel_rfl) (fun _ _ _ h => h) (Or.inl ⟨by rfl, fun w hSw => by go_simp⟩) hS3 ?_
  simp only [Act.put, List.getElem_toArray, List.getElem_cons_succ, List.getElem_cons_zero, List.setIfInBounds_toArray, List.set_cons_zero, List.set_cons_succ]
  refine wpAnyH_take (i := 9) (v := .slice xa X.length xc) rfl (by kernel_rfl) (by kernel_rfl) (by kernel_rfl) (fun _ _ _ h => h) (Or.inl ⟨by rfl, fun w hSw => by go_simp⟩) hS3 ?_
  simp only [Act.put, List.getElem_toArray, List.getElem_cons_succ, List.getElem_cons_zero, List.setIfInBounds_toArray, List.set_cons_zero, List.set_cons_succ]
  refine wpAnyH_take (i := 10) (v := .slice ya Y.length yc) rfl (by kernel_rfl) (by kernel_rfl) (by kernel_rfl) (fun _ _ _ h => h) (Or.inl ⟨by rfl, fun w hSw => by go_simp⟩) hS3 ?_
  simp only [Act.put, List.getElem_toArray, List.getElem_cons_succ, List.getElem_cons_zero, List.setIfInBounds_toArray, List.set_cons_zero, List.set_cons_succ]
  refine wpAnyH_take (i := 11) (v := .int .i64 0) rfl (by kernel_rfl) (by kernel_rfl) (by kernel_rfl) (fun _ _ _ h => h) (Or.inl ⟨by rfl, fun w hSw => by go_simp⟩) hS3 ?_
  simp only [Act.put, List.getElem_toArray, List.getElem_cons_succ, List.getElem_cons_zero, List.setIfInBounds_toArray, List.set_cons_zero, List.set_cons_succ]
  refine wpAnyH_take (i := 12) (v := .slice xa X.length xc) rfl (by kernel_rfl) (by kernel_rfl) (by kernel_rfl) (fun _ _ _ h => h) (Or.inl ⟨by rfl, fun w hSw => by go_simp⟩) hS3 ?_
  simp only [Act.put, List.getElem_toArray, List.getElem_cons_succ, List.getElem_cons_zero, List.setIfInBounds_toArray, List.set_cons_zero, List.set_cons_succ]
  refine wpAnyH_take (i := 13) (v := .slice ya Y.length yc) rfl (by kernel_rfl) (by kernel_rfl) (by kernel_rfl) (fun _ _ _ h => h) (Or.inl ⟨by rfl, fun w hSw => by go_simp⟩) hS3 ?_
  simp only [Act.put, List.getElem_toArray, List.getElem_cons_succ, List.getElem_cons_zero, List.setIfInBounds_toArray, List.set_cons_zero, List.set_cons_succ]
  refine wpAnyH_take (i := 14) (v := .int .i64 0) rfl (by kernel_rfl) (by kernel_rfl) (by kernel_rfl) (fun _ _ _ h => h) (Or.inl ⟨by rfl, fun w hSw => by go_simp⟩) hS3 ?_
  simp only [Act.put, List.getElem_toArray, List.getElem_cons_succ, List.getElem_cons_zero, List.setIfInBounds_toArray, List.set_cons_zero, List.set_cons_succ]
  refine wpAnyH_done (by kernel_rfl) ?_ _
  have HAL : Hid (RowsP F (w3.alloc (.cells #[.slice xa X.length xc, .slice ya Y.length yc] 56)) (some ⟨w3.heap.size, 0, none⟩) [X, Y] ∧ Below w.heap.size w (w3.alloc (.cells #[.slice xa X.length xc, .slice ya Y.length yc] 56))) := by
   obtain ⟨⟨q1, q2, q3⟩, q4, q5, q6, q7⟩ := H3.out
   have hb3 : Below w3.heap.size w3 (w3.alloc (.cells #[.slice xa X.length xc, .slice ya Y.length yc] 56)) := (Below.refl _ _).alloc (Nat.le_refl _) _
   have hrow : (w3.alloc (.cells #[.slice xa X.length xc, .slice ya Y.length yc] 56)).heap[w3.heap.size]? = some (.cells #[.slice xa X.length xc, .slice ya Y.length yc] 56 (0, 0)) := heap_alloc_new _ _
   refine ⟨⟨by show 2 ≤ _; decide, fun _ => ⟨w3.heap.size, 0, rfl, fun hf => by have := HF.out _ hf; have := hS3.size; omega, fun c hc => ?_⟩⟩, hS3.trans (hb3.mono hS3.size)⟩
   have hc2 : c = 0 ∨ c = 1 := by have : c < 2 := hc; omega
   rcases hc2 with rfl | rfl
   ·exact ⟨xa, xc, by rw [cell_of_row _ _ _ _ _ _ hrow]; rfl, q4.1, q4.2, q1.below hb3, fun _ b' hb' hf => by have := HF.out _ hf; have := q6 b' hb'; have := hS.size; omega⟩
   ·exact ⟨ya, yc, by rw [cell_of_row _ _ _ _ _ _ hrow]; rfl, q5.1, q5.2, q2.below hb3, fun _ b' hb' hf => by have := HF.out _ hf; have := q7 b' hb'; have := hS.size; omega⟩
  go_wp2_with fail
  go_ret
  exact ⟨_, _, rfl, HAL.out.1, HAL.out.2⟩
abbrev fmW (f : Fm) (v : Value) : Array Value := #[.bool f.v, .int .i64 f.num, .int .i64 f.size, .int .i64 f.sc, .int .i64 f.rc, .int .i64 f.wc, .int .i64 f.mo, v]
def Off (w : World) (vL vS : Value) (a : OA) (l : List Int) : Prop := 0 < l.length -> ∀ b, blockOf a = some b -> w.heap.size < b /\ vL.ownBlock ≠ some b /\ vS.ownBlock ≠ some b
structure RS (w : World) (x q : Nat) (s : ByteArray) (f : Fm) (a b c d : Int) (i : Inf) (e : Int) (sc : ByteArray) (L : List (List Int)) (S : List Sb) (vL vS vB : Value) (cX cY : List Value) (at_ : Nat) (wx : World) : Prop where
 rd : Rd wx x s at_
 fb : wx.heap[q]? = some (.cells (fmW f vB) 24 (0, 0))
 ib : wx.heap[w.heap.size]? = some (.cells (infC a b c d i e sc) 26 (0, 0))
 oX : wx.ownsRow (w.heap.size + 1) 56 1 vL L.length cX
 oY : wx.ownsRow (w.heap.size + 1) 67 10 vS S.length cY
 ne : ∀ g, vL.ownBlock = some g -> vS.ownBlock ≠ some g
 st : Stays (two x q) w wx
 hx : x < w.heap.size
 hq : q < w.heap.size
 xq : x ≠ q
 dX : ∀ n, n < L.length -> ∃ a k, cX[n]? = some (.slice a (L.getD n []).length k) /\ ((L.getD n []).length <= k /\ (a = none -> k = 0)) /\ IntsAt wx a (L.getD n []) /\ Off w vL vS a (L.getD n [])
 dY : ∀ n, n < S.length -> ∃ ca cc pa pc ea ec, (∀ j u, (subC (S.getD n Sb0) ca cc pa pc ea ec).toList[j]? = some u -> cY[n * 10 + j]? = some u) /\ SbAt wx (S.getD n Sb0) ca pa ea /\ ((S.getD n Sb0).C.length <= cc /\ (ca = none -> cc = 0)) /\ Off w vL vS ca (S.getD n Sb0).C /\ Off w vL vS pa (S.getD n Sb0).R.P /\ Off w vL vS ea (S.getD n Sb0).R.E
theorem own_keep {base e size n : Nat} {v : Value} {xs : List Value} {w w' : World} (h : w.ownsRow base e size v n xs) (hb : ∀ g, v.ownBlock = some g -> w'.heap[g]? = w.heap[g]?) : w'.ownsRow base e size v n xs := by
 refine ⟨h.1, ?_⟩
 rcases h.2 with ⟨h1, h2⟩ | ⟨g, cap, cur, h1, h2, h3, h4⟩
 ·exact .inl ⟨h1, h2⟩
 ·exact .inr ⟨g, cap, cur, h1, h2, by rw [hb g (by rw [h1]; rfl)]; exact h3, h4⟩
theorem ints_keep {w w' : World} {a : OA} {l : List Int} (h : IntsAt w a l) (hb : 0 < l.length -> ∀ b, blockOf a = some b -> b < w.heap.size -> w'.heap[b]? = w.heap[b]?) : IntsAt w' a l := by
 refine ⟨h.len, h.num, fun h0 => ?_⟩
 obtain ⟨b, off, e, hc⟩ := h.lies h0
 refine ⟨b, off, e, fun j hj => ?_⟩
 have h1 := hc j hj
 have h2 := lt_cell h1
 rw [<- h1]
 exact World.cell?_of_block (w := w) (hb h0 b (by rw [e]; rfl) h2)
theorem sb_keep {w w' : World} {z : Sb} {ca pa ea : OA} (h : SbAt w z ca pa ea) (hC : IntsAt w' ca z.C) (hP : IntsAt w' pa z.R.P) (hE : IntsAt w' ea z.R.E) : SbAt w' z ca pa ea := by
 obtain ⟨h1, h2, h3, h4, h5, h6, h7⟩ := h
 exact ⟨hC, { h2 with P := hP, E := hE }, h3, h4, h5, h6, h7⟩
section
variable {w wx w' : World} {x q : Nat} {s : ByteArray} {f : Fm} {a b c d : Int} {i : Inf} {e : Int} {sc : ByteArray} {L : List (List Int)} {S : List Sb} {vL vS vB : Value} {cX cY : List Value} {at_ at2 : Nat}
theorem RS.keep (h : RS w x q s f a b c d i e sc L S vL vS vB cX cY at_ wx) (hr : Rd w' x s at2) (hs : wx.heap.size <= w'.heap.size) (hst : Stays (two x q) w w') (hb : ∀ k, k < wx.heap.size -> k ≠ x -> w'.heap[k]? = wx.heap[k]?) : RS w x q s f a b c d i e sc L S vL vS vB cX cY at2 w' := by
 have hx := h.hx
 have off : ∀ {ao : OA} {l : List Int}, Off w vL vS ao l -> IntsAt wx ao l -> IntsAt w' ao l := fun {ao l} ho hi => ints_keep hi (fun h0 k hk hl => hb k hl (by have := (ho h0 k hk).1; omega))
 refine ⟨hr, by rw [hb _ (lt_of_block h.fb) (fun e => h.xq e.symm)]; exact h.fb, by rw [hb _ (lt_of_block h.ib) (by omega)]; exact h.ib, own_keep h.oX (fun g hg => ?_), own_keep h.oY (fun g hg => ?_), h.ne, hst, h.hx, h.hq, h.xq, fun n hn => ?_, fun n hn => ?_⟩
 ·have := h.oX.lt g hg; exact hb g this.2 (by omega)
 ·have := h.oY.lt g hg; exact hb g this.2 (by omega)
 ·obtain ⟨a, k, h1, h2, h3, h4⟩ := h.dX n hn
  exact ⟨a, k, h1, h2, off h4 h3, h4⟩
 ·obtain ⟨ca, cc, pa, pc, ea, ec, h1, h2, h3, h4, h5, h6⟩ := h.dY n hn
  exact ⟨ca, cc, pa, pc, ea, ec, h1, sb_keep h2 (off h4 h2.C) (off h5 h2.R.P) (off h6 h2.R.E), h3, h4, h5, h6⟩
theorem RS.low (h : RS w x q s f a b c d i e sc L S vL vS vB cX cY at_ wx) (hb : Lo wx w') : RS w x q s f a b c d i e sc L S vL vS vB cX cY at_ w' :=
 h.keep (by unfold Rd; rw [hb.block _ h.rd.lt]; exact h.rd) hb.size (h.st.trans (Stays.of_below hb (two x q)) (fun _ _ h => h)) (fun k hk _ => hb.block k hk)
theorem RS.only (h : RS w x q s f a b c d i e sc L S vL vS vB cX cY at_ wx) (hr : Rd w' x s at2) (hs : Stays (only x) wx w') : RS w x q s f a b c d i e sc L S vL vS vB cX cY at2 w' :=
 h.keep hr hs.size (h.st.trans hs (fun _ _ h => Or.inl h)) (fun k hk hne => hs.block k hk hne)
theorem RS.cells (h : RS w x q s f a b c d i e sc L S vL vS vB cX cY at_ wx) : wx.cell? ⟨q, 2, none⟩ = some (.int .i64 f.size) /\ wx.cell? ⟨q, 6, none⟩ = some (.int .i64 f.mo) /\ wx.cell? ⟨q, 7, none⟩ = some vB /\ wx.cell? ⟨w.heap.size, 6, none⟩ = some (.int .i64 i.wd) /\ wx.cell? ⟨w.heap.size, 5, none⟩ = some (.int .i64 i.ch) := by
 obtain ⟨i0, i1, i2, i3, i4, i5, i6, i7, i8⟩ := inf_cells h.ib
 refine ⟨?_, ?_, ?_, i6, i5⟩ <;> (rw [cell_of_row _ _ _ _ _ _ h.fb]; rfl)
theorem RS.pushX (h : RS w x q s f a b c d i e sc L S vL vS vB cX cY at_ wx) {g cap : Nat} {la : OA} {lc : Nat} {l : List Int} (ho : w'.ownsRow (w.heap.size + 1) 56 1 (.slice (some ⟨g, 0, none⟩) (L.length + 1) cap) (L.length + 1) (cX ++ [.slice la l.length lc])) (hg : wx.grownBy w' vL.ownBlock) (hat : vL.ownBlock = some g ∨ g = wx.heap.size) (hl : IntsAt wx la l) (hlc : l.length <= lc /\ (la = none -> lc = 0)) (hoff : Off w vL vS la l) :
  RS w x q s f a b c d i e sc (L ++ [l]) S (.slice (some ⟨g, 0, none⟩) (L.length + 1) cap) vS vB (cX ++ [.slice la l.length lc]) cY at_ w' := by
 have hx := h.hx
 have hq := h.hq
 have hib := lt_of_block h.ib
 have blk : ∀ k, k < wx.heap.size -> vL.ownBlock ≠ some k -> w'.heap[k]? = wx.heap[k]? := fun k hk hne => hg.block k hk (fun e => hne e.symm)
 have own : ∀ k, vL.ownBlock = some k -> w.heap.size + 1 <= k := fun k hk => (h.oX.lt k hk).1
 have low : ∀ k, k <= w.heap.size -> w'.heap[k]? = wx.heap[k]? := fun k hk => blk k (by omega) (fun e => by have := own k e; omega)
 have off : ∀ {ao : OA} {l : List Int}, Off w vL vS ao l -> IntsAt wx ao l -> IntsAt w' ao l := fun {ao l} hf hi => ints_keep hi (fun h0 k hk hl => blk k hl (hf h0 k hk).2.1)
 have offn : ∀ {ao : OA} {l : List Int}, Off w vL vS ao l -> IntsAt wx ao l -> Off w (.slice (some ⟨g, 0, none⟩) (L.length + 1) cap) vS ao l := fun {ao l} hf hi h0 b hb => by
  have hne : (Value.slice (some ⟨g, 0, none⟩) (L.length + 1) cap).ownBlock ≠ some b := fun e => by
   have e2 : g = b := by simpa [Value.ownBlock] using e
   rcases hat with h1 | h1
   ·exact (hf h0 b hb).2.1 (by rw [h1, e2])
   ·have := hi.blk h0 b hb; omega
  exact ⟨(hf h0 b hb).1, hne, (hf h0 b hb).2.2⟩
 have hst : Stays (two x q) w w' := h.st.trans (Stays.of_grown hg (S := fun k => vL.ownBlock = some k) (fun k hk => hk)) (fun k hk hkk => by have := own k hkk; omega)
 refine ⟨by unfold Rd; rw [low x (by omega)]; exact h.rd, by rw [low q (by omega)]; exact h.fb, by rw [low _ (Nat.le_refl _)]; exact h.ib, ?_, ?_, ?_, hst, hx, hq, h.xq, fun n hn => ?_, fun n hn => ?_⟩
 ·rw [show (L ++ [l]).length = L.length + 1 by rw [List.length_append]; rfl]; exact ho
 ·exact own_keep h.oY (fun k hk => blk k (h.oY.lt k hk).2 (fun e => h.ne k e hk))
 ·intro k hk e
  have e2 : g = k := by simpa [Value.ownBlock] using hk
  rcases hat with h1 | h1
  ·exact h.ne k (by rw [h1, e2]) e
  ·have := (h.oY.lt k e).2; omega
 ·have hlen : cX.length = L.length := by have := h.oX.1; omega
  by_cases hn2 : n < L.length
  ·obtain ⟨a, k, h1, h2, h3, h4⟩ := h.dX n hn2
   have e1 : (L ++ [l]).getD n [] = L.getD n [] := by rw [getD_snoc L l [] n L.length rfl, if_pos hn2]
   rw [e1]
   exact ⟨a, k, by rw [List.getElem?_append_left (by omega)]; exact h1, h2, off h4 h3, offn h4 h3⟩
  ·have en : n = L.length := by rw [List.length_append] at hn; have : n < L.length + 1 := hn; omega
   have e1 : (L ++ [l]).getD n [] = l := by rw [getD_snoc L l [] n L.length rfl, if_neg hn2, if_pos en]
   rw [e1]
   exact ⟨la, lc, by rw [List.getElem?_append_right (by omega), show n - cX.length = 0 by omega]; rfl, hlc, off hoff hl, offn hoff hl⟩
 ·obtain ⟨ca, cc, pa, pc, ea, ec, h1, h2, h3, h4, h5, h6⟩ := h.dY n hn
  exact ⟨ca, cc, pa, pc, ea, ec, h1, sb_keep h2 (off h4 h2.C) (off h5 h2.R.P) (off h6 h2.R.E), h3, offn h4 h2.C, offn h5 h2.R.P, offn h6 h2.R.E⟩
theorem RS.pushY (h : RS w x q s f a b c d i e sc L S vL vS vB cX cY at_ wx) {g cap : Nat} {z : Sb} {ca : OA} {cc : Nat} {pa : OA} {pc : Nat} {ea : OA} {ec : Nat} (ho : w'.ownsRow (w.heap.size + 1) 67 10 (.slice (some ⟨g, 0, none⟩) (S.length + 1) cap) (S.length + 1) (cY ++ (subC z ca cc pa pc ea ec).toList)) (hg : wx.grownBy w' vS.ownBlock) (hat : vS.ownBlock = some g ∨ g = wx.heap.size) (hl : SbAt wx z ca pa ea) (hlc : z.C.length <= cc /\ (ca = none -> cc = 0)) (hoC : Off w vL vS ca z.C) (hoP : Off w vL vS pa z.R.P) (hoE : Off w vL vS ea z.R.E) :
  RS w x q s f a b c d i e sc L (S ++ [z]) vL (.slice (some ⟨g, 0, none⟩) (S.length + 1) cap) vB cX (cY ++ (subC z ca cc pa pc ea ec).toList) at_ w' := by
 have hx := h.hx
 have hq := h.hq
 have hib := lt_of_block h.ib
 have blk : ∀ k, k < wx.heap.size -> vS.ownBlock ≠ some k -> w'.heap[k]? = wx.heap[k]? := fun k hk hne => hg.block k hk (fun e => hne e.symm)
 have own : ∀ k, vS.ownBlock = some k -> w.heap.size + 1 <= k := fun k hk => (h.oY.lt k hk).1
 have low : ∀ k, k <= w.heap.size -> w'.heap[k]? = wx.heap[k]? := fun k hk => blk k (by omega) (fun e => by have := own k e; omega)
 have off : ∀ {ao : OA} {l : List Int}, Off w vL vS ao l -> IntsAt wx ao l -> IntsAt w' ao l := fun {ao l} hf hi => ints_keep hi (fun h0 k hk hl => blk k hl (hf h0 k hk).2.2)
 have offn : ∀ {ao : OA} {l : List Int}, Off w vL vS ao l -> IntsAt wx ao l -> Off w vL (.slice (some ⟨g, 0, none⟩) (S.length + 1) cap) ao l := fun {ao l} hf hi h0 b hb => by
  have hne : (Value.slice (some ⟨g, 0, none⟩) (S.length + 1) cap).ownBlock ≠ some b := fun e => by
   have e2 : g = b := by simpa [Value.ownBlock] using e
   rcases hat with h1 | h1
   ·exact (hf h0 b hb).2.2 (by rw [h1, e2])
   ·have := hi.blk h0 b hb; omega
  exact ⟨(hf h0 b hb).1, (hf h0 b hb).2.1, hne⟩
 have hst : Stays (two x q) w w' := h.st.trans (Stays.of_grown hg (S := fun k => vS.ownBlock = some k) (fun k hk => hk)) (fun k hk hkk => by have := own k hkk; omega)
 refine ⟨by unfold Rd; rw [low x (by omega)]; exact h.rd, by rw [low q (by omega)]; exact h.fb, by rw [low _ (Nat.le_refl _)]; exact h.ib, ?_, ?_, ?_, hst, hx, hq, h.xq, fun n hn => ?_, fun n hn => ?_⟩
 ·exact own_keep h.oX (fun k hk => blk k (h.oX.lt k hk).2 (fun e => h.ne k hk e))
 ·rw [show (S ++ [z]).length = S.length + 1 by rw [List.length_append]; rfl]; exact ho
 ·intro k hk e
  have e2 : g = k := by simpa [Value.ownBlock] using e
  rcases hat with h1 | h1
  ·exact h.ne k hk (by rw [h1, e2])
  ·have := (h.oX.lt k hk).2; omega
 ·obtain ⟨a, k, h1, h2, h3, h4⟩ := h.dX n hn
  exact ⟨a, k, h1, h2, off h4 h3, offn h4 h3⟩
 ·have hlen : cY.length = S.length * 10 := h.oY.1
  by_cases hn2 : n < S.length
  ·obtain ⟨ca, cc, pa, pc, ea, ec, h1, h2, h3, h4, h5, h6⟩ := h.dY n hn2
   have e1 : (S ++ [z]).getD n Sb0 = S.getD n Sb0 := by rw [getD_snoc S z Sb0 n S.length rfl, if_pos hn2]
   rw [e1]
   refine ⟨ca, cc, pa, pc, ea, ec, fun j u hu => ?_, sb_keep h2 (off h4 h2.C) (off h5 h2.R.P) (off h6 h2.R.E), h3, offn h4 h2.C, offn h5 h2.R.P, offn h6 h2.R.E⟩
   have h7 := h1 j u hu
   have hl : n * 10 + j < cY.length := by
    rcases Nat.lt_or_ge (n * 10 + j) cY.length with hl | hl
    ·exact hl
    ·rw [List.getElem?_eq_none hl] at h7; cases h7
   rw [List.getElem?_append_left hl]; exact h7
  ·have en : n = S.length := by rw [List.length_append] at hn; have : n < S.length + 1 := hn; omega
   have e1 : (S ++ [z]).getD n Sb0 = z := by rw [getD_snoc S z Sb0 n S.length rfl, if_neg hn2, if_pos en]
   rw [e1]
   refine ⟨ca, cc, pa, pc, ea, ec, fun j u hu => ?_, sb_keep hl (off hoC hl.C) (off hoP hl.R.P) (off hoE hl.R.E), hlc, offn hoC hl.C, offn hoP hl.R.P, offn hoE hl.R.E⟩
   rw [List.getElem?_append_right (by omega), show n * 10 + j - cY.length = j by omega]; exact hu
theorem RS.store (h : RS w x q s f a b c d i e sc L S vL vS vB cX cY at_ wx) : RS w x q s f a b c d i e sc L S vL vS vS cX cY at_ (wx.setCell ⟨q, 7, none⟩ vS) := by
 have hx := h.hx
 have hq := h.hq
 have blk : ∀ k, k ≠ q -> (wx.setCell ⟨q, 7, none⟩ vS).heap[k]? = wx.heap[k]? := fun k hk => Below.heap_setCell _ _ _ _ hk
 have off : ∀ {ao : OA} {l : List Int}, Off w vL vS ao l -> IntsAt wx ao l -> IntsAt (wx.setCell ⟨q, 7, none⟩ vS) ao l := fun {ao l} ho hi => ints_keep hi (fun h0 k hk hl => blk k (by have := (ho h0 k hk).1; omega))
 refine ⟨h.rd.other _ _ (fun e => h.xq e.symm), by rw [block_setCell _ _ _ _ _ _ h.fb]; rfl, by rw [blk _ (by omega)]; exact h.ib, own_keep h.oX (fun g hg => blk g (by have := h.oX.lt g hg; omega)), own_keep h.oY (fun g hg => blk g (by have := h.oY.lt g hg; omega)), h.ne, h.st.setCell _ _ (.inl (.inr rfl)), h.hx, h.hq, h.xq, fun n hn => ?_, fun n hn => ?_⟩
 ·obtain ⟨a, k, h1, h2, h3, h4⟩ := h.dX n hn
  exact ⟨a, k, h1, h2, off h4 h3, h4⟩
 ·obtain ⟨ca, cc, pa, pc, ea, ec, h1, h2, h3, h4, h5, h6⟩ := h.dY n hn
  exact ⟨ca, cc, pa, pc, ea, ec, h1, sb_keep h2 (off h4 h2.C) (off h5 h2.R.P) (off h6 h2.R.E), h3, h4, h5, h6⟩
theorem RS.rows (h : RS w x q s f a b c d i e sc L S vL vS vB cX cY at_ wx) (hl : L.length <= 8) : ∃ lo lk, vL = .slice lo L.length lk /\ RowsAt wx lo L := by
 have ho := h.oX
 rcases ho.2 with ⟨h1, h2⟩ | ⟨g, cap, cur, h1, h2, h3, h4, h5, h6, h7⟩
 ·exact ⟨none, 0, by rw [h1, h2], ⟨by omega, fun h0 => by omega⟩⟩
 ·refine ⟨_, cap, h1, ⟨by omega, fun h0 => ⟨g, 0, rfl, fun n hn => ?_⟩⟩⟩
  obtain ⟨a, k, k1, k2, k3, k4⟩ := h.dX n hn
  refine ⟨a, k, ?_, k2.1, k2.2, k3⟩
  rw [Nat.zero_add, cell_of_row _ _ _ _ _ _ h3, <- Array.getElem?_toList]
  rw [<- h7, List.getElem?_take] at k1
  split at k1
  ·exact k1
  ·cases k1
theorem RS.subs (h : RS w x q s f a b c d i e sc L S vL vS vB cX cY at_ wx) (hl : S.length <= 8) : ∃ so sk, vS = .slice so S.length sk /\ SubsAt wx so S /\ (S.length <= sk /\ (so = none -> sk = 0)) := by
 have ho := h.oY
 rcases ho.2 with ⟨h1, h2⟩ | ⟨g, cap, cur, h1, h2, h3, h4, h5, h6, h7⟩
 ·exact ⟨none, 0, by rw [h1, h2], ⟨by omega, fun h0 => by omega⟩, by omega, fun _ => rfl⟩
 ·refine ⟨_, cap, h1, ⟨by omega, fun h0 => ⟨g, 0, rfl, fun n hn => ?_⟩⟩, h4, fun e => by cases e⟩
  obtain ⟨ca, cc, pa, pc, ea, ec, k1, k2, k3, _⟩ := h.dY n hn
  refine ⟨ca, cc, pa, pc, ea, ec, ?_, k2, k3⟩
  have cel : ∀ j u, (subC (S.getD n Sb0) ca cc pa pc ea ec).toList[j]? = some u -> wx.cell? ⟨g, 0 + n * 10 + j, none⟩ = some u := fun j u hu => by
   have k := k1 j u hu
   rw [<- h7, List.getElem?_take] at k
   split at k
   ·rw [Nat.zero_add, cell_of_row _ _ _ _ _ _ h3, <- Array.getElem?_toList]; exact k
   ·cases k
  exact ⟨cel 0 _ rfl, cel 1 _ rfl, cel 2 _ rfl, cel 3 _ rfl, cel 4 _ rfl, cel 5 _ rfl, cel 6 _ rfl, cel 7 _ rfl, cel 8 _ rfl, cel 9 _ rfl⟩
end
structure JX (w : World) (f : Fm) (so : OA) (sk : Nat) (a b c d : Int) (i : Inf) (e : Int) (s : ByteArray) (k : Nat) (q : Sb) (ca : OA) (cc : Nat) (pa : OA) (pc : Nat) (ea : OA) (ec : Nat) (wx : World) : Prop where
 fx : FX w f so sk a b c d i e s wx
 sb : wx.heap[k]? = some (.cells (subC q ca cc pa pc ea ec) 67 (0, 0))
section
variable {w wx w' : World} {f : Fm} {so : OA} {sk : Nat} {a b c d : Int} {i : Inf} {e : Int} {s : ByteArray} {k : Nat} {q : Sb} {ca : OA} {cc : Nat} {pa : OA} {pc : Nat} {ea : OA} {ec : Nat}
theorem JX.next (h : JX w f so sk a b c d i e s k q ca cc pa pc ea ec wx) (hb : Lo wx w') : JX w f so sk a b c d i e s k q ca cc pa pc ea ec w' :=
 ⟨h.fx.next hb, by rw [hb.block _ (lt_of_block h.sb)]; exact h.sb⟩
end
theorem JX.cells {w wx : World} {f : Fm} {so : OA} {sk : Nat} {a b c d : Int} {i : Inf} {e : Int} {s : ByteArray} {k : Nat} {q : Sb} {ca : OA} {cc : Nat} {pa : OA} {pc : Nat} {ea : OA} {ec : Nat} (h : JX w f so sk a b c d i e s k q ca cc pa pc ea ec wx) : wx.cell? ⟨w.heap.size, 2, none⟩ = some (.int .i64 f.size) /\ wx.cell? ⟨w.heap.size, 6, none⟩ = some (.int .i64 f.mo) /\ wx.cell? ⟨w.heap.size + 1, 6, none⟩ = some (.int .i64 i.wd) /\ wx.cell? ⟨k, 0, none⟩ = some (.int .i64 q.k) /\ wx.cell? ⟨k, 1, none⟩ = some (.int .i64 q.o) /\ wx.cell? ⟨k, 2, none⟩ = some (.int .i64 q.w) /\ wx.cell? ⟨k, 3, none⟩ = some (.int .i64 q.p) /\ wx.cell? ⟨k, 4, none⟩ = some (.int .i64 q.h) /\ wx.cell? ⟨k, 5, none⟩ = some (.slice ca q.C.length cc) /\ wx.cell? ⟨k, 6, none⟩ = some (.int .i64 q.R.m) /\ wx.cell? ⟨k, 7, none⟩ = some (.int .i64 q.R.o) /\ wx.cell? ⟨k, 8, none⟩ = some (.slice pa q.R.P.length pc) /\ wx.cell? ⟨k, 9, none⟩ = some (.slice ea q.R.E.length ec) := by
 obtain ⟨f0, f1, f2, f3, f4, f5, f6, f7, i0, i1, i2, i3, i4, i5, i6, i7, i8⟩ := h.fx.cells
 obtain ⟨x0, x1, x2, x3, x4, x5, x6, x7, x8, x9⟩ := sub_cells h.sb
 exact ⟨f2, f6, i6, x0, x1, x2, x3, x4, x5, x6, x7, x8, x9⟩
theorem f_has (f : Fm) (so : OA) (sk : Nat) (a b c d : Int) (i : Inf) (e : Int) (s : ByteArray) (hw : 4 <= i.wd /\ i.wd <= 24) (bb : Bool) (hbb : bb = true ↔ ((f.S.length : Int) = i.ch /\ ∀ j, j < f.S.length -> subOk (f.S.getD j Sb0) f.size (wdA i f.mo j))) (w : World) (hf : FmAt w f so sk) : Calls Tryz.prog 37 #[fmV f so sk, infV a b c d i e s] w fun en w' => en = .returned (.bool bb) /\ Lo w w' := by
 have hlen := hf.S.len
 have HS := kQ hf.S
 clear hf
 by_cases g0 : (f.S.length : Int) = i.ch
 focus
  have hb0 : ((f.S.length : Int) != i.ch) = false := by rw [bne_eq_false_iff_eq]; exact g0
  have HBB : Hid (bb = true ↔ ∀ j, j < f.S.length -> subOk (f.S.getD j Sb0) f.size (wdA i f.mo j)) := ⟨fun h => (hbb.1 h).2, fun h => hbb.2 ⟨g0, h⟩⟩
  clear hbb g0
  have KWW : Hid (∀ n wx, G0 65 #[.int .i64 f.mo, .int .i64 ((n : Nat) : Int), .int .i64 i.wd] wx (.int .i64 (wdA i f.mo n))) := fun n wx => f_subW i f.mo n hw wx
 rotate_left
 focus
  have hb0 : ((f.S.length : Int) != i.ch) = true := by rw [bne_iff_ne]; exact g0
  rw [bb_no hbb (fun h => g0 h.1)]
  clear hbb g0 HS
 rotate_left
 all_goals
  have HA : Hid (FX w f so sk a b c d i e s ((w.alloc (.cells (fmC f so sk) 24)).alloc (.cells (infC a b c d i e s) 26))) := FX.new w f so sk a b c d i e s
  go_enter Tryz.func37, Tryz.ntmps37
  go_upto_region 1 with fail
  generalize World.alloc _ _ = wa at *
  obtain ⟨f0, f1, f2, f3, f4, f5, f6, f7, i0, i1, i2, i3, i4, i5, i6, i7, i8⟩ := HA.out.cells
  go_wp2_with fail
 ·clear f0 f1 f2 f3 f4 f5 f6 f7 i0 i1 i2 i3 i4 i5 i6 i7 i8
  go_loopw [5, 6, 16] (fun s5 s6 s16 wr => ∃ n : Nat, n <= f.S.length /\ s16 = .int .i64 (n : Int) /\ (∀ j, j < n -> subOk (f.S.getD j Sb0) f.size (wdA i f.mo j)) /\ FX w f so sk a b c d i e s wr) (fun _ _ s16 _ => f.S.length - (intOf s16).toNat)
  case atStart => exact ⟨0, Nat.zero_le _, rfl, fun j hj => absurd hj (Nat.not_lt_zero _), HA.out⟩
  case round =>
   clear HA
   obtain ⟨n, hn, rfl, hok, hfx⟩ := hrel
   have HOK := kQ hok
   have HFX := kQ hfx
   clear hok hfx
   by_cases hlt : n < f.S.length
   focus
    obtain ⟨sb, sf, rfl, q1⟩ := HS.out.lies (by omega)
    obtain ⟨ca, cc, pa, pc, ea, ec, m1, m2, m3⟩ := q1 n hlt
    have m1r := m1.keep (HFX.out.below.block _ (lt_cell m1.1))
    have KW : Hid (∀ wx, G0 65 #[.int .i64 f.mo, .int .i64 (n : Int), .int .i64 i.wd] wx (.int .i64 (wdA i f.mo n))) := fun wx => KWW.out n wx
    obtain ⟨r, hr⟩ : ∃ r : Int, (subOk (f.S.getD n Sb0) f.size (wdA i f.mo n) -> r = 0) /\ (¬ subOk (f.S.getD n Sb0) f.size (wdA i f.mo n) -> r = 60) := by
     by_cases h : subOk (f.S.getD n Sb0) f.size (wdA i f.mo n)
     ·exact ⟨0, fun _ => rfl, fun h2 => absurd h h2⟩
     ·exact ⟨60, fun h2 => absurd h2 h, fun _ => rfl⟩
    have KK : Hid (∀ wx, Hid (JX w f (some ⟨sb, sf, none⟩) sk a b c d i e s wr.heap.size (f.S.getD n Sb0) ca cc pa pc ea ec wx) -> Calls Tryz.prog 88 #[subV (f.S.getD n Sb0) ca cc pa pc ea ec, .int .i64 f.size, .int .i64 (wdA i f.mo n)] wx fun en w' => en = .returned (.int .i64 r) /\ Hid (JX w f (some ⟨sb, sf, none⟩) sk a b c d i e s wr.heap.size (f.S.getD n Sb0) ca cc pa pc ea ec w')) := fun wx hx => (s_check (f.S.getD n Sb0) ca cc pa pc ea ec f.size (wdA i f.mo n) r hr.1 hr.2 wx (m2.below hx.out.fx.below)).mono fun en w' q => ⟨q.1, hx.out.next q.2⟩
    have HR := kQ hr
    have HJ : Hid (JX w f (some ⟨sb, sf, none⟩) sk a b c d i e s wr.heap.size (f.S.getD n Sb0) ca cc pa pc ea ec (wr.alloc (.cells (subC (f.S.getD n Sb0) ca cc pa pc ea ec) 67))) := ⟨HFX.out.next aQ, heap_alloc_new _ _⟩
    have HE : Hid (∀ j, j = n -> subOk (f.S.getD j Sb0) f.size (wdA i f.mo j) = subOk (f.S.getD n Sb0) f.size (wdA i f.mo n)) := fun j hj => by rw [hj]
    clear q1 m1 m2 m3 hr KWW
    unfold SubIn at m1r
    obtain ⟨x0, x1, x2, x3, x4, x5, x6, x7, x8, x9⟩ := m1r
    obtain ⟨f0, f1, f2, f3, f4, f5, f6, f7, i0, i1, i2, i3, i4, i5, i6, i7, i8⟩ := HFX.out.cells
    by_cases hs : subOk (f.S.getD n Sb0) f.size (wdA i f.mo n)
    focus
     have hr0 := HR.out.1 hs
     subst hr0
     have HSO := kQ hs
     clear hs HR HBB
    rotate_left
    focus
     have hr0 := HR.out.2 hs
     subst hr0
     have HF : Hid (bb = false) := bb_no HBB.out (fun h => hs (h n hlt))
     clear hs HR HBB HE HOK
    rotate_left
   rotate_left 2
   ·have HF : Hid (bb = true) := bb_yes HBB.out (fun j hj => HOK.out j (by omega))
    clear HBB HOK
    obtain ⟨f0, f1, f2, f3, f4, f5, f6, f7, i0, i1, i2, i3, i4, i5, i6, i7, i8⟩ := HFX.out.cells
    go_wp2_with fail
    go_ret
    exact ⟨by rw [HF.out]; rfl, HFX.out.below⟩
   all_goals
    generalize f.S.getD n Sb0 = q at *
    generalize wdA i f.mo n = v at *
    go_upto_region 6 with fail
    generalize World.alloc _ _ = w2 at *
    generalize wr.heap.size = k at *
    clear x0 x1 x2 x3 x4 x5 x6 x7 x8 x9 f0 f1 f2 f3 f4 f5 f6 f7 i0 i1 i2 i3 i4 i5 i6 i7 i8 HFX
    have HC : Hid (∀ wx, Hid (JX w f (some ⟨sb, sf, none⟩) sk a b c d i e s k q ca cc pa pc ea ec wx) -> wx.cell? ⟨w.heap.size, 2, none⟩ = some (.int .i64 f.size) /\ wx.cell? ⟨w.heap.size, 6, none⟩ = some (.int .i64 f.mo) /\ wx.cell? ⟨w.heap.size + 1, 6, none⟩ = some (.int .i64 i.wd) /\ wx.cell? ⟨k, 0, none⟩ = some (.int .i64 q.k) /\ wx.cell? ⟨k, 1, none⟩ = some (.int .i64 q.o) /\ wx.cell? ⟨k, 2, none⟩ = some (.int .i64 q.w) /\ wx.cell? ⟨k, 3, none⟩ = some (.int .i64 q.p) /\ wx.cell? ⟨k, 4, none⟩ = some (.int .i64 q.h) /\ wx.cell? ⟨k, 5, none⟩ = some (.slice ca q.C.length cc) /\ wx.cell? ⟨k, 6, none⟩ = some (.int .i64 q.R.m) /\ wx.cell? ⟨k, 7, none⟩ = some (.int .i64 q.R.o) /\ wx.cell? ⟨k, 8, none⟩ = some (.slice pa q.R.P.length pc) /\ wx.cell? ⟨k, 9, none⟩ = some (.slice ea q.R.E.length ec)) := fun wx h => h.out.cells
    have HD : Hid (JX w f (some ⟨sb, sf, none⟩) sk a b c d i e s k q ca cc pa pc ea ec w2.drew) := HJ.out.next dQ
    clear HJ
    go_wp2_with fail
    go_region_held3 (fun wx => wx.cell? ⟨w.heap.size, 2, none⟩ = some (.int .i64 f.size) /\ wx.cell? ⟨w.heap.size, 6, none⟩ = some (.int .i64 f.mo) /\ wx.cell? ⟨w.heap.size + 1, 6, none⟩ = some (.int .i64 i.wd) /\ wx.cell? ⟨k, 0, none⟩ = some (.int .i64 q.k) /\ wx.cell? ⟨k, 1, none⟩ = some (.int .i64 q.o) /\ wx.cell? ⟨k, 2, none⟩ = some (.int .i64 q.w) /\ wx.cell? ⟨k, 3, none⟩ = some (.int .i64 q.p) /\ wx.cell? ⟨k, 4, none⟩ = some (.int .i64 q.h) /\ wx.cell? ⟨k, 5, none⟩ = some (.slice ca q.C.length cc) /\ wx.cell? ⟨k, 6, none⟩ = some (.int .i64 q.R.m) /\ wx.cell? ⟨k, 7, none⟩ = some (.int .i64 q.R.o) /\ wx.cell? ⟨k, 8, none⟩ = some (.slice pa q.R.P.length pc) /\ wx.cell? ⟨k, 9, none⟩ = some (.slice ea q.R.E.length ec)) (exact HC.out _ (by assumption))
     (first
      | (go_at_call 65; refine (KW.out _).mono ?_; rintro en w4 ⟨rfl, hw4⟩; subst hw4)
      | (go_at_call 88; refine (KK.out _ (by assumption)).mono ?_; rintro en w5 ⟨rfl, h5⟩))
    go_wp2_with fail
   ·go_roundw
    case rel =>
     refine ⟨n + 1, by omega, by go_num, fun j hj => ?_, h5.out.fx⟩
     by_cases ej : j = n
     ·rw [HE.out j ej]; exact HSO.out
     ·exact HOK.out j (by omega)
    case measure => simp [intOf]; omega
   ·go_ret
    exact ⟨by rw [HF.out]; rfl, h5.out.fx.below⟩
 ·go_ret
  exact ⟨rfl, HA.out.below⟩
end Go.Proofs.YtfpfabmbipmipaaGreatDoor
