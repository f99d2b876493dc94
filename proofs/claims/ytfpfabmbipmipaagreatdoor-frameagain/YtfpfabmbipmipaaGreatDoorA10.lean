/- Own text. -/
import Derived.Test.YtfpfabmbipmipaaGreatDoorA9
set_option linter.unusedSimpArgs false
set_option linter.unusedVariables false
set_option maxRecDepth 20000
set_option maxHeartbeats 12800000
namespace Go.Proofs.YtfpfabmbipmipaaGreatDoor
open Go.RowKit
structure DS (q : Nat) (s : ByteArray) (k gp ge N : Nat) (m o : Int) (P E : List Int) (a : Nat) (w : World) : Prop where
 rd : Rd w q s a
 bk : w.heap[k]? = some (.cells #[.int .i64 m, .int .i64 o, .slice (some ⟨gp, 0, none⟩) N N, .slice (some ⟨ge, 0, none⟩) N N] 65 (0, 0))
 bp : IntsBlk w gp P
 be : IntsBlk w ge E
 lp : P.length = N
 le : E.length = N
 n32 : N <= 32768
 al : a <= 8 * s.size
structure Dist (q k gp ge : Nat) : Prop where
 qk : q ≠ k
 qp : q ≠ gp
 qe : q ≠ ge
 kp : k ≠ gp
 ke : k ≠ ge
 pe : gp ≠ ge
def S3 (q gp ge : Nat) (b : Nat) : Prop := b = q ∨ b = gp ∨ b = ge
section
variable {q : Nat} {s : ByteArray} {k gp ge N : Nat} {m o : Int} {P E : List Int} {a a' : Nat} {w w' : World}
theorem DS.cells (h : DS q s k gp ge N m o P E a w) : w.cell? ⟨k, 0, none⟩ = some (.int .i64 m) /\ w.cell? ⟨k, 1, none⟩ = some (.int .i64 o) /\ w.cell? ⟨k, 2, none⟩ = some (.slice (some ⟨gp, 0, none⟩) N N) /\ w.cell? ⟨k, 3, none⟩ = some (.slice (some ⟨ge, 0, none⟩) N N) := by
 refine ⟨?_, ?_, ?_, ?_⟩ <;> (rw [cell_of_row _ _ _ _ _ _ h.bk]; rfl)
theorem DS.only (h : DS q s k gp ge N m o P E a w) (d : Dist q k gp ge) (hr : Rd w' q s a') (ha : a' <= 8 * s.size) (hS : Stays (only q) w w') : DS q s k gp ge N m o P E a' w' :=
 ⟨hr, by rw [hS.block _ (lt_of_block h.bk) (fun e => d.qk e.symm)]; exact h.bk, h.bp.stays hS (fun e => d.qp e.symm), h.be.stays hS (fun e => d.qe e.symm), h.lp, h.le, h.n32, ha⟩
theorem DS.low (h : DS q s k gp ge N m o P E a w) (hb : Lo w w') : DS q s k gp ge N m o P E a w' :=
 ⟨h.rd.below hb, by rw [hb.block _ (lt_of_block h.bk)]; exact h.bk, h.bp.below hb, h.be.below hb, h.lp, h.le, h.n32, h.al⟩
theorem only_s3 (h : Stays (only q) w w') : Stays (S3 q gp ge) w w' := h.mono (fun i _ hi => Or.inl hi)
theorem Rd.other (h : Rd w q s a) (p : Addr) (u : Value) (hp : p.block ≠ q) : Rd (w.setCell p u) q s a := by
 unfold Rd; rw [Below.heap_setCell w p u q (fun e => hp e.symm)]; exact h
theorem DS.setP (h : DS q s k gp ge N m o P E a w) (d : Dist q k gp ge) (i : Nat) (v : Int) : DS q s k gp ge N m o (P.set i v) E a (w.setCell ⟨gp, i, none⟩ (.int .i64 v)) :=
 ⟨h.rd.other _ _ (fun e => d.qp e.symm), by rw [Below.heap_setCell w _ _ k (fun e => d.kp e)]; exact h.bk, h.bp.set i v, h.be.other _ _ d.pe, by rw [List.length_set]; exact h.lp, h.le, h.n32, h.al⟩
theorem DS.setE (h : DS q s k gp ge N m o P E a w) (d : Dist q k gp ge) (i : Nat) (v : Int) : DS q s k gp ge N m o P (E.set i v) a (w.setCell ⟨ge, i, none⟩ (.int .i64 v)) :=
 ⟨h.rd.other _ _ (fun e => d.qe e.symm), by rw [Below.heap_setCell w _ _ k (fun e => d.ke e)]; exact h.bk, h.bp.other _ _ (fun e => d.pe e.symm), h.be.set i v, h.lp, by rw [List.length_set]; exact h.le, h.n32, h.al⟩
end
theorem set_same (P : List Int) (i : Nat) (h : P.getD i 0 = 0) : P.set i 0 = P := by
 apply List.ext_getElem?
 intro j
 rw [List.getElem?_set]
 split
 ·rename_i e; subst e
  split
  ·rename_i hi
   rw [List.getD_eq_getElem?_getD] at h
   rw [List.getElem?_eq_getElem hi] at h ⊢
   simp at h
   rw [h]
  ·rename_i hi
   rw [List.getElem?_eq_none (by omega)]
 ·rfl
theorem head_no (q : Nat) (s : ByteArray) (hs : s.size <= 1000000000000000000) (k gp ge N : Nat) (m o : Int) (P E : List Int) (a i : Nat) (m0 : 0 <= m) (m1 : m <= 1) (hi : i < N) (d : Dist q k gp ge) (w : World) (h : DS q s k gp ge N m o P E a w) (hn : rdHead s a m = none) :
  Calls Tryz.prog 223 #[.pointer (some ⟨q, 0, none⟩), .pointer (some ⟨k, 0, none⟩), .int .i64 (i : Int)] w fun en w' => en = .returned (.bool false) /\ Stays (S3 q gp ge) w w' := by
 have KW : Hid (∀ wx, G0 213 #[.int .i64 m] wx (.int .i64 (4 + m))) := fun wx => pw_spec m m0 m1 wx
 have KM : Hid (∀ wx, G0 214 #[.int .i64 m] wx (.int .i64 (15 + 16 * m))) := fun wx => mark_spec m m0 m1 wx
 have HD := kQ h
 have HDi := kQ d
 have kn := number_spec q s hs a h.al (4 + m) (by omega) (by omega) w h.rd
 have hv := getV_m s a m m0 m1
 have hn32 := h.n32
 have hal := h.al
 obtain ⟨x0, x1, x2, x3⟩ := h.cells
 have hle2 := getA_le s a (4 + m) h.al
 clear h d
 by_cases g0 : getE s a (4 + m) = 0
 focus
  have g1 : getV s a (4 + m) = 15 + 16 * m := by
   apply Classical.byContradiction
   intro hh
   unfold rdHead at hn
   rw [if_pos g0, if_neg hh] at hn
   cases hn
  have g2 : ¬ getE s (getA s a (4 + m)) 5 = 0 := fun hh => by
   unfold rdHead at hn
   rw [if_pos g0, if_pos g1, if_pos hh] at hn
   cases hn
  have HG2 : Hid ((getE s (getA s a (4 + m)) 5 == 0) = false) := by show _ = _; rw [beq_eq_false_iff_ne]; exact g2
  rw [g0, g1] at kn
  clear hn g0 g1 g2 hv
  have hb0 : ((0 : Int) == 0) = true := rfl
  have hbm : ((15 + 16 * m) != (15 + 16 * m)) = false := by rw [bne_eq_false_iff_eq]
 rotate_left
 focus
  have hb0 : (getE s a (4 + m) == 0) = false := by rw [beq_eq_false_iff_ne]; exact g0
  rw [hb0] at kn
  clear hn g0 hb0
 rotate_left
 all_goals
  go_enter Tryz.func223, Tryz.ntmps223
  go_wp2_with fail
  refine (KW.out w).mono ?_
  rintro e wx ⟨rfl, rfl⟩
  go_wp2_with fail
  refine kn.mono ?_
  rintro e w2 ⟨rfl, h2, h3⟩
  have HS2 := kQ h3
  have HD2 := kQ (HD.out.only HDi.out h2 hle2 h3)
  clear kn h2 h3 x0 x1 x2 x3
 ·obtain ⟨x0, x1, x2, x3⟩ := HD2.out.cells
  go_wp2_with fail
  refine (KM.out w2).mono ?_
  rintro e w3 ⟨rfl, rfl⟩
  have HDD : Hid (DS q s k gp ge N m o P E (getA s a (4 + m)) w3.drew) := HD2.out.low dQ
  have HSC : Hid (∀ a' wx, Hid (DS q s k gp ge N m o P E a' wx) -> wx.cell? ⟨k, 3, none⟩ = some (.slice (some ⟨ge, 0, none⟩) N N) /\ wx.cell? ⟨ge, i, none⟩ = some (.int .i64 (E.getD i 0)) /\ wx.frozen? ⟨ge, i, none⟩ = false) := fun a' wx hh => ⟨hh.out.cells.2.2.2, hh.out.be.cell i (by rw [hh.out.le]; exact hi), hh.out.be.frozen i⟩
  have HSK : Hid (∀ a' wx v, Hid (DS q s k gp ge N m o P E a' wx) -> (wx.setCell ⟨ge, i, none⟩ v).cell? ⟨k, 3, none⟩ = some (.slice (some ⟨ge, 0, none⟩) N N)) := fun a' wx v hh => by
   rw [World.cell?_of_block (w := wx) (Below.heap_setCell wx _ _ k (fun e => HDi.out.ke e))]
   exact hh.out.cells.2.2.2
  have K5 : Hid (∀ wx, Hid (DS q s k gp ge N m o P E (getA s a (4 + m)) wx) -> Calls Tryz.prog 232 #[.pointer (some ⟨q, 0, none⟩), .int .i64 5] wx fun en w' => en = .returned (.tuple #[.int .i64 (getV s (getA s a (4 + m)) 5), .bool false]) /\ Hid (DS q s k gp ge N m o P E (getA s (getA s a (4 + m)) 5) w') /\ Hid (Stays (only q) wx w')) := fun wx hh => (number_spec q s hs _ hle2 5 (by omega) (by omega) wx hh.out.rd).mono fun e w' hq => ⟨by rw [hq.1, HG2.out], hh.out.only HDi.out hq.2.1 (getA_le _ _ _ hle2) hq.2.2, hq.2.2⟩
  clear x0 x1 x2 x3 HD2 HD
  go_wp2_with fail
  go_region_held3 (fun wx => wx.cell? ⟨k, 3, none⟩ = some (.slice (some ⟨ge, 0, none⟩) N N)) (first | exact (HSC.out _ _ (by assumption)).1 | exact HSK.out _ _ _ (by assumption))
   ((go_at_call 232; refine (K5.out _ (by assumption)).mono ?_; rintro e w5 ⟨rfl, h5, h6⟩; obtain ⟨y3, yi, yf⟩ := HSC.out _ _ h5))
  all_goals go_wp2_with fail
  all_goals go_ret
  all_goals have HST : Stays (S3 q gp ge) wx (w5.setCell ⟨ge, i, none⟩ (.int .i64 (getV s (getA s a (4 + m)) 5))) := (((only_s3 HS2.out).drew).trans (only_s3 h6.out) (fun _ _ h => h)).setCell _ _ (Or.inl (Or.inr (Or.inr rfl)))
  all_goals exact ⟨rfl, HST⟩
 ·go_wp2_with fail
  go_ret
  exact ⟨rfl, only_s3 HS2.out⟩
theorem head_yes (q : Nat) (s : ByteArray) (hs : s.size <= 1000000000000000000) (k gp ge N : Nat) (m o : Int) (P E : List Int) (a i : Nat) (m0 : 0 <= m) (m1 : m <= 1) (hi : i < N) (d : Dist q k gp ge) (w : World) (h : DS q s k gp ge N m o P E a w) (kk ee : Int) (a3 : Nat) (hz : P.getD i 0 = 0) (hn : rdHead s a m = some (kk, ee, a3)) :
  Calls Tryz.prog 223 #[.pointer (some ⟨q, 0, none⟩), .pointer (some ⟨k, 0, none⟩), .int .i64 (i : Int)] w fun en w' => en = .returned (.bool true) /\ DS q s k gp ge N m o (P.set i kk) (E.set i ee) a3 w' /\ Stays (S3 q gp ge) w w' := by
 have KW : Hid (∀ wx, G0 213 #[.int .i64 m] wx (.int .i64 (4 + m))) := fun wx => pw_spec m m0 m1 wx
 have KM : Hid (∀ wx, G0 214 #[.int .i64 m] wx (.int .i64 (15 + 16 * m))) := fun wx => mark_spec m m0 m1 wx
 have HD := kQ h
 have HDi := kQ d
 have kn := number_spec q s hs a h.al (4 + m) (by omega) (by omega) w h.rd
 have hv := getV_m s a m m0 m1
 have hn32 := h.n32
 have hal := h.al
 obtain ⟨x0, x1, x2, x3⟩ := h.cells
 have hle2 := getA_le s a (4 + m) h.al
 clear h d
 have g0 : getE s a (4 + m) = 0 := by
  apply Classical.byContradiction
  intro hh
  unfold rdHead at hn
  rw [if_neg hh] at hn
  cases hn
 have hb0 : ((0 : Int) == 0) = true := rfl
 by_cases g1 : getV s a (4 + m) = 15 + 16 * m
 focus
  have g2 : getE s (getA s a (4 + m)) 5 = 0 := by
   apply Classical.byContradiction
   intro hh
   unfold rdHead at hn
   rw [if_pos g0, if_pos g1, if_neg hh] at hn
   cases hn
  have HG2 : Hid ((getE s (getA s a (4 + m)) 5 == 0) = true) := by show _ = _; rw [g2]; rfl
  unfold rdHead at hn
  rw [if_pos g0, if_pos g1, if_pos g2] at hn
  cases hn
  have HPZ : Hid (P.set i 0 = P) := set_same P i hz
  rw [g0, g1] at kn
  clear g0 g1 g2 hv hz
  have hbm : ((15 + 16 * m) != (15 + 16 * m)) = false := by rw [bne_eq_false_iff_eq]
 rotate_left
 focus
  unfold rdHead at hn
  rw [if_pos g0, if_neg g1] at hn
  cases hn
  rw [g0] at kn
  have hbm : (getV s a (4 + m) != (15 + 16 * m)) = true := by rw [bne_iff_ne]; exact g1
  clear g0 g1 hz
  generalize getV s a (4 + m) = v at *
 rotate_left
 all_goals
  go_enter Tryz.func223, Tryz.ntmps223
  go_wp2_with fail
  refine (KW.out w).mono ?_
  rintro e wx ⟨rfl, rfl⟩
  go_wp2_with fail
  refine kn.mono ?_
  rintro e w2 ⟨rfl, h2, h3⟩
  have HS2 := kQ h3
  have HD2 := kQ (HD.out.only HDi.out h2 hle2 h3)
  clear kn h2 h3 x0 x1 x2 x3
  obtain ⟨x0, x1, x2, x3⟩ := HD2.out.cells
  go_wp2_with fail
  refine (KM.out w2).mono ?_
  rintro e w3 ⟨rfl, rfl⟩
 ·have HDD : Hid (DS q s k gp ge N m o P E (getA s a (4 + m)) w3.drew) := HD2.out.low dQ
  have HSC : Hid (∀ a' wx, Hid (DS q s k gp ge N m o P E a' wx) -> wx.cell? ⟨k, 3, none⟩ = some (.slice (some ⟨ge, 0, none⟩) N N) /\ wx.cell? ⟨ge, i, none⟩ = some (.int .i64 (E.getD i 0)) /\ wx.frozen? ⟨ge, i, none⟩ = false) := fun a' wx hh => ⟨hh.out.cells.2.2.2, hh.out.be.cell i (by rw [hh.out.le]; exact hi), hh.out.be.frozen i⟩
  have HSK : Hid (∀ a' wx v, Hid (DS q s k gp ge N m o P E a' wx) -> (wx.setCell ⟨ge, i, none⟩ v).cell? ⟨k, 3, none⟩ = some (.slice (some ⟨ge, 0, none⟩) N N)) := fun a' wx v hh => by
   rw [World.cell?_of_block (w := wx) (Below.heap_setCell wx _ _ k (fun e => HDi.out.ke e))]
   exact hh.out.cells.2.2.2
  have K5 : Hid (∀ wx, Hid (DS q s k gp ge N m o P E (getA s a (4 + m)) wx) -> Calls Tryz.prog 232 #[.pointer (some ⟨q, 0, none⟩), .int .i64 5] wx fun en w' => en = .returned (.tuple #[.int .i64 (getV s (getA s a (4 + m)) 5), .bool true]) /\ Hid (DS q s k gp ge N m o P E (getA s (getA s a (4 + m)) 5) w') /\ Hid (Stays (only q) wx w')) := fun wx hh => (number_spec q s hs _ hle2 5 (by omega) (by omega) wx hh.out.rd).mono fun e w' hq => ⟨by rw [hq.1, HG2.out], hh.out.only HDi.out hq.2.1 (getA_le _ _ _ hle2) hq.2.2, hq.2.2⟩
  clear x0 x1 x2 x3 HD2 HD
  go_wp2_with fail
  go_region_held3 (fun wx => wx.cell? ⟨k, 3, none⟩ = some (.slice (some ⟨ge, 0, none⟩) N N)) (first | exact (HSC.out _ _ (by assumption)).1 | exact HSK.out _ _ _ (by assumption))
   ((go_at_call 232; refine (K5.out _ (by assumption)).mono ?_; rintro e w5 ⟨rfl, h5, h6⟩; obtain ⟨y3, yi, yf⟩ := HSC.out _ _ h5))
  all_goals go_wp2_with fail
  all_goals go_ret
  all_goals have HST : Stays (S3 q gp ge) wx (w5.setCell ⟨ge, i, none⟩ (.int .i64 (getV s (getA s a (4 + m)) 5))) := (((only_s3 HS2.out).drew).trans (only_s3 h6.out) (fun _ _ h => h)).setCell _ _ (Or.inl (Or.inr (Or.inr rfl)))
  all_goals exact ⟨rfl, by rw [HPZ.out]; exact h5.out.setE HDi.out i _, HST⟩
 ·have yp := HD2.out.bp.cell i (by rw [HD2.out.lp]; exact hi)
  have ye := HD2.out.be.cell i (by rw [HD2.out.le]; exact hi)
  have fp := HD2.out.bp.frozen i
  have fe := HD2.out.be.frozen i
  have hpe := HDi.out.pe
  have hep : ge ≠ gp := fun e => hpe e.symm
  have HD3 : Hid (DS q s k gp ge N m o P E (getA s a (4 + m)) w3.drew) := HD2.out.low dQ
  go_wp2_with fail
  go_region
  all_goals go_wp2_with fail
  all_goals go_ret
  all_goals refine ⟨rfl, ?_, ?_⟩
  all_goals first
   | exact (HD3.out.setP HDi.out i v).setE HDi.out i (-1)
   | exact (HD3.out.setE HDi.out i (-1)).setP HDi.out i v
   | exact (((only_s3 (gp := gp) (ge := ge) HS2.out).setCell ⟨gp, i, none⟩ (.int .i64 v) (Or.inl (Or.inr (Or.inl rfl)))).setCell ⟨ge, i, none⟩ (.int .i64 (-1)) (Or.inl (Or.inr (Or.inr rfl)))).drew
   | exact (((only_s3 (gp := gp) (ge := ge) HS2.out).setCell ⟨ge, i, none⟩ (.int .i64 (-1)) (Or.inl (Or.inr (Or.inr rfl)))).setCell ⟨gp, i, none⟩ (.int .i64 v) (Or.inl (Or.inr (Or.inl rfl)))).drew
def RPost (R : Option (List Int × Nat)) (no : Prop) (yes : List Int -> Nat -> Prop) : Prop := match R with
 | none => no
 | some (X, a2) => yes X a2
theorem RPost.none_ {R : Option (List Int × Nat)} {no : Prop} {yes : List Int -> Nat -> Prop} (h : R = none) (hn : no) : RPost R no yes := by rw [h]; exact hn
theorem RPost.some_ {R : Option (List Int × Nat)} {no : Prop} {yes : List Int -> Nat -> Prop} {X : List Int} {a : Nat} (h : R = some (X, a)) (hn : yes X a) : RPost R no yes := by rw [h]; exact hn
def S2 (q gl : Nat) (b : Nat) : Prop := b = q ∨ b = gl
theorem set_mid (A X C : List Int) (z : Nat) (v : Int) (hz : 0 < z) : (A ++ X ++ List.replicate z 0 ++ C).set (A.length + X.length) v = A ++ (X ++ [v]) ++ List.replicate (z - 1) 0 ++ C := by
 obtain ⟨z, rfl⟩ : ∃ y, z = y + 1 := ⟨z - 1, by omega⟩
 rw [List.append_assoc (A ++ X), List.set_append_right _ _ (by rw [List.length_append]; omega)]
 rw [List.length_append, Nat.sub_self, List.replicate_succ, List.cons_append, List.set_cons_zero]
 simp
section
variable {q : Nat} {s : ByteArray} {k gp ge N : Nat} {m o : Int} {P E : List Int} {a a' : Nat} {w w' : World}
theorem DS.other (h : DS q s k gp ge N m o P E a w) (p : Addr) (u : Value) (h1 : p.block ≠ q) (h2 : p.block ≠ k) (h3 : p.block ≠ gp) (h4 : p.block ≠ ge) : DS q s k gp ge N m o P E a (w.setCell p u) :=
 ⟨h.rd.other _ _ h1, by rw [Below.heap_setCell w _ _ k (fun e => h2 e.symm)]; exact h.bk, h.bp.other _ _ h3, h.be.other _ _ h4, h.lp, h.le, h.n32, h.al⟩
end
theorem rpart_spec (q : Nat) (s : ByteArray) (hs : s.size <= 1000000000000000000) (k gp ge gl N : Nat) (m o : Int) (P E : List Int) (a i : Nat) (hi : i < N) (d : Dist q k gp ge) (g1 : gl ≠ q) (g2 : gl ≠ k) (g3 : gl ≠ gp) (g4 : gl ≠ ge) (n : Nat) (hn : n <= 65535) (A C : List Int) (xo : OA) (cap : Nat) (hxo : 0 < n -> xo = some ⟨gl, A.length, none⟩) (hm : mayOk m (P.getD i 0) (E.getD i 0)) (hm1 : m <= 1) (w : World) (h : DS q s k gp ge N m o P E a w) (hl : IntsBlk w gl (A ++ List.replicate n 0 ++ C)) :
  Calls Tryz.prog 224 #[.pointer (some ⟨q, 0, none⟩), .agg #[.int .i64 m, .int .i64 o, .slice (some ⟨gp, 0, none⟩) N N, .slice (some ⟨ge, 0, none⟩) N N], .int .i64 (i : Int), .slice xo n cap] w fun en w' => RPost (rdAll s (P.getD i 0) (E.getD i 0) n a) (en = .returned (.bool false) /\ Stays (S2 q gl) w w') (fun X a2 => en = .returned (.bool true) /\ DS q s k gp ge N m o P E a2 w' /\ IntsBlk w' gl (A ++ X ++ C) /\ Stays (S2 q gl) w w') := by
 have hiP : i < P.length := by rw [h.lp]; exact hi
 have hiE : i < E.length := by rw [h.le]; exact hi
 have hn32 := h.n32
 have hkm : 0 <= P.getD i 0 /\ P.getD i 0 <= 30 /\ -1 <= E.getD i 0 /\ E.getD i 0 <= 31 := by unfold mayOk at hm; omega
 have HB : Hid (Lo w (w.alloc (.cells #[.int .i64 m, .int .i64 o, .slice (some ⟨gp, 0, none⟩) N N, .slice (some ⟨ge, 0, none⟩) N N] 65))) := aQ
 have HDa := kQ (h.low HB.out)
 have HLa := kQ (hl.below HB.out)
 have HDi := kQ d
 have hbx : (w.alloc (.cells #[.int .i64 m, .int .i64 o, .slice (some ⟨gp, 0, none⟩) N N, .slice (some ⟨ge, 0, none⟩) N N] 65)).heap[w.heap.size]? = some (.cells #[.int .i64 m, .int .i64 o, .slice (some ⟨gp, 0, none⟩) N N, .slice (some ⟨ge, 0, none⟩) N N] 65 (0, 0)) := heap_alloc_new _ _
 have x2 : (w.alloc (.cells #[.int .i64 m, .int .i64 o, .slice (some ⟨gp, 0, none⟩) N N, .slice (some ⟨ge, 0, none⟩) N N] 65)).cell? ⟨w.heap.size, 2, none⟩ = some (.slice (some ⟨gp, 0, none⟩) N N) := by rw [cell_of_row _ _ _ _ _ _ hbx]; rfl
 have x3 : (w.alloc (.cells #[.int .i64 m, .int .i64 o, .slice (some ⟨gp, 0, none⟩) N N, .slice (some ⟨ge, 0, none⟩) N N] 65)).cell? ⟨w.heap.size, 3, none⟩ = some (.slice (some ⟨ge, 0, none⟩) N N) := by rw [cell_of_row _ _ _ _ _ _ hbx]; rfl
 have yp := HDa.out.bp.cell i hiP
 have ye := HDa.out.be.cell i hiE
 have HXO := kQ hxo
 clear h hl hbx hxo hm
 generalize P.getD i 0 = kk at *
 generalize E.getD i 0 = ee at *
 obtain ⟨k0, k1, e0, e1⟩ := hkm
 by_cases hz : ee = 0
 ·subst hz
  have HZR : Hid (rdAll s kk 0 n a = some (List.replicate n 0, a)) := rdAll_zero n a
  go_enter Tryz.func224, Tryz.ntmps224
  go_wp2_with fail
  generalize w.alloc _ = wa at *
  go_quiet (fail)
  go_wp2_with fail
  go_ret
  exact RPost.some_ HZR.out ⟨rfl, HDa.out.low (below_drewN _ _), HLa.out.below (below_drewN _ _), (Stays.of_below HB.out _).drewN _⟩
 ·have hbz : (ee == 0) = false := by rw [beq_eq_false_iff_ne]; exact hz
  have HZ := kQ hz
  clear hz
  go_enter Tryz.func224, Tryz.ntmps224
  go_wp2_with fail
  generalize w.alloc _ = wa at *
  go_quiet (fail)
  clear x2 x3 yp ye
  go_wp2_with fail
  have HDb : Hid (DS q s k gp ge N m o P E a (wa.drewN nq)) := HDa.out.low (below_drewN _ _)
  have HLb : Hid (IntsBlk (wa.drewN nq) gl (A ++ List.replicate n 0 ++ C)) := HLa.out.below (below_drewN _ _)
  have HSb : Hid (Stays (S2 q gl) w (wa.drewN nq)) := (Stays.of_below HB.out _).drewN _
  clear HDa HLa HB
  generalize wa.drewN nq = wb at *
  go_loopw [11, 12, 13, 28] (fun s11 s12 s13 s28 wr => ∃ (j : Nat) (X : List Int) (aj : Nat), j <= n /\ s28 = .int .i64 (j : Int) /\ rdAll s kk ee j a = some (X, aj) /\ DS q s k gp ge N m o P E aj wr /\ IntsBlk wr gl (A ++ X ++ List.replicate (n - j) 0 ++ C) /\ Stays (S2 q gl) w wr) (fun _ _ _ s28 _ => n - (intOf s28).toNat)
  case atStart => exact ⟨0, [], a, Nat.zero_le _, rfl, rfl, HDb.out, by rw [List.append_nil]; exact HLb.out, HSb.out⟩
  case round =>
   clear HDb HLb HSb
   obtain ⟨j, X, aj, hj, rfl, hrd, hds, hli, hst⟩ := hrel
   have HRD := kQ hrd
   have HDS := kQ hds
   have HLI := kQ hli
   have HST := kQ hst
   have hxl : X.length = j := rdAll_len hrd
   clear hrd hds hli hst
   by_cases hlt : j < n
   ·have exo := HXO.out (by omega)
    subst exo
    have ko := readOne_spec q s hs aj HDS.out.al kk ee HZ.out wr HDS.out.rd
    by_cases hge : rdE s aj kk ee = 0
    ·have HNX : Hid (rdAll s kk ee (j + 1) a = some (X ++ [rdV s aj kk ee], rdA s aj kk ee)) := rdAll_some HRD.out hge
     have hvb := rd_bound s aj kk ee (by omega) (by omega)
     rw [hge] at ko
     clear hge
     have hAl := rdA_le s aj kk ee HDS.out.al
     generalize rdV s aj kk ee = v at *
     generalize rdA s aj kk ee = a' at *
     go_wp2_with fail
     refine ko.mono ?_
     rintro e w3 ⟨rfl, h3, h4⟩
     have HD3 := kQ (HDS.out.only HDi.out h3 hAl h4)
     have HL3 : Hid (IntsBlk w3 gl (A ++ X ++ List.replicate (n - j) 0 ++ C)) := HLI.out.stays h4 (fun e => g1 e)
     have HS3 : Hid (Stays (S2 q gl) w w3) := HST.out.trans h4 (fun _ _ h => Or.inl h)
     clear ko h3 h4
     have yc := HL3.out.cell (A.length + j) (by simp only [List.length_append, List.length_replicate]; omega)
     have yf := HL3.out.frozen (A.length + j)
     generalize (A ++ X ++ List.replicate (n - j) 0 ++ C).getD (A.length + j) 0 = vv at yc
     go_wp2_with fail
     go_roundw
     case rel =>
      refine ⟨j + 1, X ++ [v], a', by omega, by go_num, HNX.out, HD3.out.other _ _ g1 g2 g3 g4, ?_, HS3.out.setCell _ _ (Or.inl (Or.inr rfl))⟩
      have hh := HL3.out.set (A.length + j) v
      rw [show A.length + j = A.length + X.length by omega, set_mid A X C (n - j) v (by omega)] at hh
      rw [show n - (j + 1) = n - j - 1 by omega]
      rw [show A.length + j = A.length + X.length by omega]
      exact hh
     case measure => simp [intOf]; omega
    ·have HNO : Hid (rdAll s kk ee n a = none) := rdAll_none n (rdAll_stop HRD.out hge) (by omega)
     have hbg : (rdE s aj kk ee != 0) = true := by rw [bne_iff_ne]; exact hge
     clear hge
     generalize rdV s aj kk ee = v at *
     generalize rdE s aj kk ee = ev at *
     go_wp2_with fail
     refine ko.mono ?_
     rintro e w3 ⟨rfl, h3, h4⟩
     have HS3 : Hid (Stays (S2 q gl) w w3) := HST.out.trans h4 (fun _ _ h => Or.inl h)
     clear ko h3 h4
     go_wp2_with fail
     go_ret
     exact RPost.none_ HNO.out ⟨rfl, HS3.out⟩
   ·have hjn : j = n := by omega
    subst hjn
    have HLE : Hid (A ++ X ++ List.replicate (j - j) 0 ++ C = A ++ X ++ C) := by show _ = _; rw [Nat.sub_self, List.replicate_zero, List.append_nil]
    go_wp2_with fail
    go_ret
    exact RPost.some_ HRD.out ⟨rfl, HDS.out, by have := HLI.out; rw [HLE.out] at this; exact this, HST.out⟩
theorem info_Rice : (Tryz.prog.info? 65).map (·.size) = some 4 := by kernel_rfl
theorem results_three {fn : Func} {p p2 t : Tmp} {ty ty2 : TypeId} (h : fn.results = #[.cell p ty, .cell p2 ty2, .tmp t]) (tmps : Array Value) (P : Program) (w : World) :
  (results fn tmps).run P w = ((asAddr (tmps.getD p undef)).run P w).andThen fun a w₁ => ((loadVar ty a).run P w₁).andThen fun x w₂ => ((asAddr (tmps.getD p2 undef)).run P w₂).andThen fun a2 w₃ => ((loadVar ty2 a2).run P w₃).andThen fun x2 w₄ => .ok (.tuple #[x, x2, tmps.getD t undef]) w₄ := by
 simp only [results, h]
 simp [Sem.run_bind, Result.andThen]
structure HS0 (w : World) (wx : World) : Prop where
 b0 : wx.heap[w.heap.size]? = some (.cells #[.int .i64 0, .int .i64 0, .slice none 0 0, .slice none 0 0] 65 (0, 0))
 b1 : wx.heap[w.heap.size + 1]? = some (.cells #[.int .i64 0, .int .i64 0, .int .i64 0] 219 (0, 0))
section
variable {w wx w' : World}
theorem HS0.new (w : World) : HS0 w ((w.alloc (.cells #[.int .i64 0, .int .i64 0, .slice none 0 0, .slice none 0 0] 65)).alloc (.cells #[.int .i64 0, .int .i64 0, .int .i64 0] 219)) := by
 refine ⟨heap_two _ _ _, ?_⟩
 have hh := heap_alloc_new (w.alloc (.cells #[.int .i64 0, .int .i64 0, .slice none 0 0, .slice none 0 0] 65)) (.cells #[.int .i64 0, .int .i64 0, .int .i64 0] 219)
 rw [show (w.alloc (.cells #[.int .i64 0, .int .i64 0, .slice none 0 0, .slice none 0 0] 65)).heap.size = w.heap.size + 1 from by simp] at hh
 exact hh
theorem HS0.stays (h : HS0 w wx) {S : Nat -> Prop} (hS : Stays S wx w') (h0 : ¬ S w.heap.size) (h1 : ¬ S (w.heap.size + 1)) : HS0 w w' :=
 ⟨by rw [hS.block _ (lt_of_block h.b0) h0]; exact h.b0, by rw [hS.block _ (lt_of_block h.b1) h1]; exact h.b1⟩
theorem HS0.below (h : HS0 w wx) (hb : Lo wx w') : HS0 w w' := h.stays (Stays.of_below hb (fun _ => False)) (fun h => h) (fun h => h)
end
theorem block_set2 (w : World) (p i k : Nat) (cs : Array Value) (t : TypeId) (u : Value) (h : w.heap[k]? = some (.cells cs t (0, 0))) (hk : k ≠ p) : (w.setCell ⟨p, i, none⟩ u).heap[k]? = some (.cells cs t (0, 0)) := by
 rw [Below.heap_setCell w _ _ k hk]; exact h
theorem HS0.again {w wx : World} (h : HS0 w wx) : HS0 w (((((((wx.setCell ⟨w.heap.size, 0, none⟩ (.int .i64 0)).setCell ⟨w.heap.size, 1, none⟩ (.int .i64 0)).setCell ⟨w.heap.size, 2, none⟩ (.slice none 0 0)).setCell ⟨w.heap.size, 3, none⟩ (.slice none 0 0)).setCell ⟨w.heap.size + 1, 0, none⟩ (.int .i64 0)).setCell ⟨w.heap.size + 1, 1, none⟩ (.int .i64 0)).setCell ⟨w.heap.size + 1, 2, none⟩ (.int .i64 0)) := by
 refine ⟨?_, ?_⟩
 ·refine block_set2 _ _ _ _ _ _ _ (block_set2 _ _ _ _ _ _ _ (block_set2 _ _ _ _ _ _ _ ?_ (by omega)) (by omega)) (by omega)
  rw [block_setCell _ _ _ _ _ _ (block_setCell _ _ _ _ _ _ (block_setCell _ _ _ _ _ _ (block_setCell _ _ _ _ _ _ h.b0)))]
  rfl
 ·have h1 : ((((wx.setCell ⟨w.heap.size, 0, none⟩ (.int .i64 0)).setCell ⟨w.heap.size, 1, none⟩ (.int .i64 0)).setCell ⟨w.heap.size, 2, none⟩ (.slice none 0 0)).setCell ⟨w.heap.size, 3, none⟩ (.slice none 0 0)).heap[w.heap.size + 1]? = some (.cells #[.int .i64 0, .int .i64 0, .int .i64 0] 219 (0, 0)) :=
   block_set2 _ _ _ _ _ _ _ (block_set2 _ _ _ _ _ _ _ (block_set2 _ _ _ _ _ _ _ (block_set2 _ _ _ _ _ _ _ h.b1 (by omega)) (by omega)) (by omega)) (by omega)
  rw [block_setCell _ _ _ _ _ _ (block_setCell _ _ _ _ _ _ (block_setCell _ _ _ _ _ _ h1))]
  rfl
theorem stays_again {S : Nat -> Prop} {w wx : World} (n : Nat) (hn : w.heap.size <= n) (h : Stays S w wx) : Stays S w (((((((wx.setCell ⟨n, 0, none⟩ (.int .i64 0)).setCell ⟨n, 1, none⟩ (.int .i64 0)).setCell ⟨n, 2, none⟩ (.slice none 0 0)).setCell ⟨n, 3, none⟩ (.slice none 0 0)).setCell ⟨n + 1, 0, none⟩ (.int .i64 0)).setCell ⟨n + 1, 1, none⟩ (.int .i64 0)).setCell ⟨n + 1, 2, none⟩ (.int .i64 0)) :=
 ((((((h.setCell _ _ (Or.inr hn)).setCell _ _ (Or.inr hn)).setCell _ _ (Or.inr hn)).setCell _ _ (Or.inr hn)).setCell _ _ (Or.inr (Nat.le_succ_of_le hn))).setCell _ _ (Or.inr (Nat.le_succ_of_le hn))).setCell _ _ (Or.inr (Nat.le_succ_of_le hn))
abbrev zRice : Value := .agg #[.int .i64 0, .int .i64 0, .slice none 0 0, .slice none 0 0]
theorem rhead_no (q : Nat) (s : ByteArray) (hs : s.size <= 1000000000000000000) (a : Nat) (ha : a <= 8 * s.size) (b r : Int) (w : World) (h : Rd w q s a) (hn : rdTop s a b r = none) :
  Calls Tryz.prog 222 #[.pointer (some ⟨q, 0, none⟩), .int .i64 b, .int .i64 r] w fun en w' => en = .returned (.tuple #[zRice, cutV 0 0 0, .bool false]) /\ Stays (only q) w w' := by
 have HN0 : Hid (HS0 w ((w.alloc (.cells #[.int .i64 0, .int .i64 0, .slice none 0 0, .slice none 0 0] 65)).alloc (.cells #[.int .i64 0, .int .i64 0, .int .i64 0] 219))) := HS0.new w
 have HB0 : Hid (Lo w ((w.alloc (.cells #[.int .i64 0, .int .i64 0, .slice none 0 0, .slice none 0 0] 65)).alloc (.cells #[.int .i64 0, .int .i64 0, .int .i64 0] 219))) := aQ.alloc (by simp) _
 have hq := h.lt
 have HRd := kQ (h.below HB0.out)
 have hle2 := getA_le s a 2 ha
 have hv2 := getV_2 s a
 have hv4 := getV_4 s (getA s a 2)
 have k2 := number_spec q s hs a ha 2 (by omega) (by omega) _ HRd.out
 clear h
 by_cases c1 : getE s a 2 = 0
 case neg =>
  have hb : (getE s a 2 == 0) = false := by rw [beq_eq_false_iff_ne]; exact c1
  rw [hb] at k2
  clear hn c1 hb
  generalize getV s a 2 = v2 at *
  go_enter Tryz.func222, Tryz.ntmps222
  go_wp2_with fail
  refine k2.mono ?_
  rintro e w2 ⟨rfl, h2, h3⟩
  have HH : Hid (HS0 w w2) := HN0.out.stays h3 (fun e => by unfold only at e; omega) (fun e => by unfold only at e; omega)
  have HS : Hid (Stays (only q) w w2) := (Stays.of_below HB0.out _).trans h3 (fun _ _ h => h)
  have HR := kQ h2
  clear k2 h2 h3 HN0 HB0 HRd
  have hb0 := HH.out.b0
  have hb1 := HH.out.b1
  have u0 : w2.cell? ⟨w.heap.size, 0, none⟩ = some (.int .i64 0) := by rw [cell_of_row _ _ _ _ _ _ hb0]; rfl
  have fu0 : w2.frozen? ⟨w.heap.size, 0, none⟩ = false := by simp [World.frozen?, hb0]
  have u1 : w2.cell? ⟨w.heap.size, 1, none⟩ = some (.int .i64 0) := by rw [cell_of_row _ _ _ _ _ _ hb0]; rfl
  have fu1 : w2.frozen? ⟨w.heap.size, 1, none⟩ = false := by simp [World.frozen?, hb0]
  have u2 : w2.cell? ⟨w.heap.size, 2, none⟩ = some (.slice none 0 0) := by rw [cell_of_row _ _ _ _ _ _ hb0]; rfl
  have fu2 : w2.frozen? ⟨w.heap.size, 2, none⟩ = false := by simp [World.frozen?, hb0]
  have u3 : w2.cell? ⟨w.heap.size, 3, none⟩ = some (.slice none 0 0) := by rw [cell_of_row _ _ _ _ _ _ hb0]; rfl
  have fu3 : w2.frozen? ⟨w.heap.size, 3, none⟩ = false := by simp [World.frozen?, hb0]
  have v0 : w2.cell? ⟨w.heap.size + 1, 0, none⟩ = some (.int .i64 0) := by rw [cell_of_row _ _ _ _ _ _ hb1]; rfl
  have fv0 : w2.frozen? ⟨w.heap.size + 1, 0, none⟩ = false := by simp [World.frozen?, hb1]
  have v1 : w2.cell? ⟨w.heap.size + 1, 1, none⟩ = some (.int .i64 0) := by rw [cell_of_row _ _ _ _ _ _ hb1]; rfl
  have fv1 : w2.frozen? ⟨w.heap.size + 1, 1, none⟩ = false := by simp [World.frozen?, hb1]
  have v2 : w2.cell? ⟨w.heap.size + 1, 2, none⟩ = some (.int .i64 0) := by rw [cell_of_row _ _ _ _ _ _ hb1]; rfl
  have fv2 : w2.frozen? ⟨w.heap.size + 1, 2, none⟩ = false := by simp [World.frozen?, hb1]
  clear hb0 hb1
  go_wp2_with fail
  generalize hwf : World.setCell _ _ _ = wf
  have hH : HS0 w wf := by rw [<- hwf]; exact HH.out.again
  have hS : Stays (only q) w wf := by rw [<- hwf]; exact stays_again _ (Nat.le_refl _) HS.out
  refine bodyPost_ret (v := .tuple #[zRice, cutV 0 0 0, .bool false]) ?_ rfl ⟨rfl, hS⟩
  rw [results_three rfl]
  have hl0 := run_loadVar_row (P := Tryz.prog) wf (w.heap.size) 65 65 #[.int .i64 0, .int .i64 0, .slice none 0 0, .slice none 0 0] (0, 0) _ hH.b0 Tryz.underlying65 rfl info_Rice
  have hl1 := run_loadVar_row (P := Tryz.prog) wf (w.heap.size + 1) 219 219 #[.int .i64 0, .int .i64 0, .int .i64 0] (0, 0) _ hH.b1 Tryz.underlying219 rfl info_cut
  simp [asAddr, Result.andThen, hl0, hl1]
 have hb : (getE s a 2 == 0) = true := by rw [c1]; rfl
 rw [hb] at k2
 by_cases c2 : getV s a 2 <= 1
 case neg =>
  clear hn c1 hb
  generalize getV s a 2 = v2 at *
  go_enter Tryz.func222, Tryz.ntmps222
  go_wp2_with fail
  refine k2.mono ?_
  rintro e w2 ⟨rfl, h2, h3⟩
  have HH : Hid (HS0 w w2) := HN0.out.stays h3 (fun e => by unfold only at e; omega) (fun e => by unfold only at e; omega)
  have HS : Hid (Stays (only q) w w2) := (Stays.of_below HB0.out _).trans h3 (fun _ _ h => h)
  have HR := kQ h2
  clear k2 h2 h3 HN0 HB0 HRd
  have hb0 := HH.out.b0
  have hb1 := HH.out.b1
  have u0 : w2.cell? ⟨w.heap.size, 0, none⟩ = some (.int .i64 0) := by rw [cell_of_row _ _ _ _ _ _ hb0]; rfl
  have fu0 : w2.frozen? ⟨w.heap.size, 0, none⟩ = false := by simp [World.frozen?, hb0]
  have u1 : w2.cell? ⟨w.heap.size, 1, none⟩ = some (.int .i64 0) := by rw [cell_of_row _ _ _ _ _ _ hb0]; rfl
  have fu1 : w2.frozen? ⟨w.heap.size, 1, none⟩ = false := by simp [World.frozen?, hb0]
  have u2 : w2.cell? ⟨w.heap.size, 2, none⟩ = some (.slice none 0 0) := by rw [cell_of_row _ _ _ _ _ _ hb0]; rfl
  have fu2 : w2.frozen? ⟨w.heap.size, 2, none⟩ = false := by simp [World.frozen?, hb0]
  have u3 : w2.cell? ⟨w.heap.size, 3, none⟩ = some (.slice none 0 0) := by rw [cell_of_row _ _ _ _ _ _ hb0]; rfl
  have fu3 : w2.frozen? ⟨w.heap.size, 3, none⟩ = false := by simp [World.frozen?, hb0]
  have v0 : w2.cell? ⟨w.heap.size + 1, 0, none⟩ = some (.int .i64 0) := by rw [cell_of_row _ _ _ _ _ _ hb1]; rfl
  have fv0 : w2.frozen? ⟨w.heap.size + 1, 0, none⟩ = false := by simp [World.frozen?, hb1]
  have v1 : w2.cell? ⟨w.heap.size + 1, 1, none⟩ = some (.int .i64 0) := by rw [cell_of_row _ _ _ _ _ _ hb1]; rfl
  have fv1 : w2.frozen? ⟨w.heap.size + 1, 1, none⟩ = false := by simp [World.frozen?, hb1]
  have v2 : w2.cell? ⟨w.heap.size + 1, 2, none⟩ = some (.int .i64 0) := by rw [cell_of_row _ _ _ _ _ _ hb1]; rfl
  have fv2 : w2.frozen? ⟨w.heap.size + 1, 2, none⟩ = false := by simp [World.frozen?, hb1]
  clear hb0 hb1
  go_wp2_with fail
  generalize hwf : World.setCell _ _ _ = wf
  have hH : HS0 w wf := by rw [<- hwf]; exact HH.out.again
  have hS : Stays (only q) w wf := by rw [<- hwf]; exact stays_again _ (Nat.le_refl _) HS.out
  refine bodyPost_ret (v := .tuple #[zRice, cutV 0 0 0, .bool false]) ?_ rfl ⟨rfl, hS⟩
  rw [results_three rfl]
  have hl0 := run_loadVar_row (P := Tryz.prog) wf (w.heap.size) 65 65 #[.int .i64 0, .int .i64 0, .slice none 0 0, .slice none 0 0] (0, 0) _ hH.b0 Tryz.underlying65 rfl info_Rice
  have hl1 := run_loadVar_row (P := Tryz.prog) wf (w.heap.size + 1) 219 219 #[.int .i64 0, .int .i64 0, .int .i64 0] (0, 0) _ hH.b1 Tryz.underlying219 rfl info_cut
  simp [asAddr, Result.andThen, hl0, hl1]
 by_cases c3 : getE s (getA s a 2) 4 = 0
 case neg =>
  have hb4 : (getE s (getA s a 2) 4 == 0) = false := by rw [beq_eq_false_iff_ne]; exact c3
  clear hn c1 hb c3
  generalize getV s a 2 = v2 at *
  go_enter Tryz.func222, Tryz.ntmps222
  go_wp2_with fail
  refine k2.mono ?_
  rintro e w2 ⟨rfl, h2, h3⟩
  have HH : Hid (HS0 w w2) := HN0.out.stays h3 (fun e => by unfold only at e; omega) (fun e => by unfold only at e; omega)
  have HS : Hid (Stays (only q) w w2) := (Stays.of_below HB0.out _).trans h3 (fun _ _ h => h)
  have HR := kQ h2
  clear k2 h2 h3 HN0 HB0 HRd
  have k4 := number_spec q s hs (getA s a 2) hle2 4 (by omega) (by omega) w2 HR.out
  rw [hb4] at k4
  generalize getV s (getA s a 2) 4 = v4 at *
  go_wp2_with fail
  refine k4.mono ?_
  rintro e w3 ⟨rfl, h2, h3⟩
  have HH3 : Hid (HS0 w w3) := HH.out.stays h3 (fun e => by unfold only at e; omega) (fun e => by unfold only at e; omega)
  have HS3 : Hid (Stays (only q) w w3) := HS.out.trans h3 (fun _ _ h => h)
  have HR3 := kQ h2
  clear k4 h2 h3 HH HS HR
  have hb0 := HH3.out.b0
  have hb1 := HH3.out.b1
  have u0 : w3.cell? ⟨w.heap.size, 0, none⟩ = some (.int .i64 0) := by rw [cell_of_row _ _ _ _ _ _ hb0]; rfl
  have fu0 : w3.frozen? ⟨w.heap.size, 0, none⟩ = false := by simp [World.frozen?, hb0]
  have u1 : w3.cell? ⟨w.heap.size, 1, none⟩ = some (.int .i64 0) := by rw [cell_of_row _ _ _ _ _ _ hb0]; rfl
  have fu1 : w3.frozen? ⟨w.heap.size, 1, none⟩ = false := by simp [World.frozen?, hb0]
  have u2 : w3.cell? ⟨w.heap.size, 2, none⟩ = some (.slice none 0 0) := by rw [cell_of_row _ _ _ _ _ _ hb0]; rfl
  have fu2 : w3.frozen? ⟨w.heap.size, 2, none⟩ = false := by simp [World.frozen?, hb0]
  have u3 : w3.cell? ⟨w.heap.size, 3, none⟩ = some (.slice none 0 0) := by rw [cell_of_row _ _ _ _ _ _ hb0]; rfl
  have fu3 : w3.frozen? ⟨w.heap.size, 3, none⟩ = false := by simp [World.frozen?, hb0]
  have v0 : w3.cell? ⟨w.heap.size + 1, 0, none⟩ = some (.int .i64 0) := by rw [cell_of_row _ _ _ _ _ _ hb1]; rfl
  have fv0 : w3.frozen? ⟨w.heap.size + 1, 0, none⟩ = false := by simp [World.frozen?, hb1]
  have v1 : w3.cell? ⟨w.heap.size + 1, 1, none⟩ = some (.int .i64 0) := by rw [cell_of_row _ _ _ _ _ _ hb1]; rfl
  have fv1 : w3.frozen? ⟨w.heap.size + 1, 1, none⟩ = false := by simp [World.frozen?, hb1]
  have v2 : w3.cell? ⟨w.heap.size + 1, 2, none⟩ = some (.int .i64 0) := by rw [cell_of_row _ _ _ _ _ _ hb1]; rfl
  have fv2 : w3.frozen? ⟨w.heap.size + 1, 2, none⟩ = false := by simp [World.frozen?, hb1]
  clear hb0 hb1
  go_wp2_with fail
  generalize hwf : World.setCell _ _ _ = wf
  have hH : HS0 w wf := by rw [<- hwf]; exact HH3.out.again
  have hS : Stays (only q) w wf := by rw [<- hwf]; exact stays_again _ (Nat.le_refl _) HS3.out
  refine bodyPost_ret (v := .tuple #[zRice, cutV 0 0 0, .bool false]) ?_ rfl ⟨rfl, hS⟩
  rw [results_three rfl]
  have hl0 := run_loadVar_row (P := Tryz.prog) wf (w.heap.size) 65 65 #[.int .i64 0, .int .i64 0, .slice none 0 0, .slice none 0 0] (0, 0) _ hH.b0 Tryz.underlying65 rfl info_Rice
  have hl1 := run_loadVar_row (P := Tryz.prog) wf (w.heap.size + 1) 219 219 #[.int .i64 0, .int .i64 0, .int .i64 0] (0, 0) _ hH.b1 Tryz.underlying219 rfl info_cut
  simp [asAddr, Result.andThen, hl0, hl1]
 have hb4 : (getE s (getA s a 2) 4 == 0) = true := by rw [c3]; rfl
 have c4 : ¬ cutOk b r (getV s (getA s a 2) 4) := fun hh => by
  unfold rdTop at hn
  rw [if_pos ⟨c1, c2⟩, if_pos ⟨c3, hh⟩] at hn
  cases hn
 clear hn c1 hb c3
 generalize getV s a 2 = v2 at *
 go_enter Tryz.func222, Tryz.ntmps222
 go_wp2_with fail
 refine k2.mono ?_
 rintro e w2 ⟨rfl, h2, h3⟩
 have HH : Hid (HS0 w w2) := HN0.out.stays h3 (fun e => by unfold only at e; omega) (fun e => by unfold only at e; omega)
 have HS : Hid (Stays (only q) w w2) := (Stays.of_below HB0.out _).trans h3 (fun _ _ h => h)
 have HR := kQ h2
 clear k2 h2 h3 HN0 HB0 HRd
 have k4 := number_spec q s hs (getA s a 2) hle2 4 (by omega) (by omega) w2 HR.out
 rw [hb4] at k4
 generalize getV s (getA s a 2) 4 = v4 at *
 have KC : Hid (∀ wx, Calls Tryz.prog 191 #[.int .i64 b, .int .i64 r, .int .i64 v4] wx fun e w' => ∃ p s f, e = .returned (.tuple #[cutV p s f, .bool false]) /\ Lo wx w') := fun wx => cutOf_no b v4 r c4 wx
 clear c4
 go_wp2_with fail
 refine k4.mono ?_
 rintro e w3 ⟨rfl, h2, h3⟩
 have HH3 : Hid (HS0 w w3) := HH.out.stays h3 (fun e => by unfold only at e; omega) (fun e => by unfold only at e; omega)
 have HS3 : Hid (Stays (only q) w w3) := HS.out.trans h3 (fun _ _ h => h)
 have HR3 := kQ h2
 clear k4 h2 h3 HH HS HR
 go_wp2_with fail
 refine (KC.out w3).mono ?_
 rintro e w4 ⟨p, sz, f, rfl, hb4'⟩
 have HH4 : Hid (HS0 w (w4.alloc (.cells #[.int .i64 p, .int .i64 sz, .int .i64 f] 219))) := (HH3.out.below hb4').below aQ
 have HS4 : Hid (Stays (only q) w (w4.alloc (.cells #[.int .i64 p, .int .i64 sz, .int .i64 f] 219))) := (HS3.out.trans (Stays.of_below hb4' _) (fun _ _ h => h)).trans (Stays.of_below aQ _) (fun _ _ h => h)
 clear hb4' HH3 HS3 HR3
 have hb0 := HH4.out.b0
 have hb1 := HH4.out.b1
 have u0 : (w4.alloc (.cells #[.int .i64 p, .int .i64 sz, .int .i64 f] 219)).cell? ⟨w.heap.size, 0, none⟩ = some (.int .i64 0) := by rw [cell_of_row _ _ _ _ _ _ hb0]; rfl
 have fu0 : (w4.alloc (.cells #[.int .i64 p, .int .i64 sz, .int .i64 f] 219)).frozen? ⟨w.heap.size, 0, none⟩ = false := by simp [World.frozen?, hb0]
 have u1 : (w4.alloc (.cells #[.int .i64 p, .int .i64 sz, .int .i64 f] 219)).cell? ⟨w.heap.size, 1, none⟩ = some (.int .i64 0) := by rw [cell_of_row _ _ _ _ _ _ hb0]; rfl
 have fu1 : (w4.alloc (.cells #[.int .i64 p, .int .i64 sz, .int .i64 f] 219)).frozen? ⟨w.heap.size, 1, none⟩ = false := by simp [World.frozen?, hb0]
 have u2 : (w4.alloc (.cells #[.int .i64 p, .int .i64 sz, .int .i64 f] 219)).cell? ⟨w.heap.size, 2, none⟩ = some (.slice none 0 0) := by rw [cell_of_row _ _ _ _ _ _ hb0]; rfl
 have fu2 : (w4.alloc (.cells #[.int .i64 p, .int .i64 sz, .int .i64 f] 219)).frozen? ⟨w.heap.size, 2, none⟩ = false := by simp [World.frozen?, hb0]
 have u3 : (w4.alloc (.cells #[.int .i64 p, .int .i64 sz, .int .i64 f] 219)).cell? ⟨w.heap.size, 3, none⟩ = some (.slice none 0 0) := by rw [cell_of_row _ _ _ _ _ _ hb0]; rfl
 have fu3 : (w4.alloc (.cells #[.int .i64 p, .int .i64 sz, .int .i64 f] 219)).frozen? ⟨w.heap.size, 3, none⟩ = false := by simp [World.frozen?, hb0]
 have v0 : (w4.alloc (.cells #[.int .i64 p, .int .i64 sz, .int .i64 f] 219)).cell? ⟨w.heap.size + 1, 0, none⟩ = some (.int .i64 0) := by rw [cell_of_row _ _ _ _ _ _ hb1]; rfl
 have fv0 : (w4.alloc (.cells #[.int .i64 p, .int .i64 sz, .int .i64 f] 219)).frozen? ⟨w.heap.size + 1, 0, none⟩ = false := by simp [World.frozen?, hb1]
 have v1 : (w4.alloc (.cells #[.int .i64 p, .int .i64 sz, .int .i64 f] 219)).cell? ⟨w.heap.size + 1, 1, none⟩ = some (.int .i64 0) := by rw [cell_of_row _ _ _ _ _ _ hb1]; rfl
 have fv1 : (w4.alloc (.cells #[.int .i64 p, .int .i64 sz, .int .i64 f] 219)).frozen? ⟨w.heap.size + 1, 1, none⟩ = false := by simp [World.frozen?, hb1]
 have v2 : (w4.alloc (.cells #[.int .i64 p, .int .i64 sz, .int .i64 f] 219)).cell? ⟨w.heap.size + 1, 2, none⟩ = some (.int .i64 0) := by rw [cell_of_row _ _ _ _ _ _ hb1]; rfl
 have fv2 : (w4.alloc (.cells #[.int .i64 p, .int .i64 sz, .int .i64 f] 219)).frozen? ⟨w.heap.size + 1, 2, none⟩ = false := by simp [World.frozen?, hb1]
 clear hb0 hb1
 go_wp2_with fail
 generalize hwf : World.setCell _ _ _ = wf
 have hH : HS0 w wf := by rw [<- hwf]; exact HH4.out.again
 have hS : Stays (only q) w wf := by rw [<- hwf]; exact stays_again _ (Nat.le_refl _) HS4.out
 refine bodyPost_ret (v := .tuple #[zRice, cutV 0 0 0, .bool false]) ?_ rfl ⟨rfl, hS⟩
 rw [results_three rfl]
 have hl0 := run_loadVar_row (P := Tryz.prog) wf (w.heap.size) 65 65 #[.int .i64 0, .int .i64 0, .slice none 0 0, .slice none 0 0] (0, 0) _ hH.b0 Tryz.underlying65 rfl info_Rice
 have hl1 := run_loadVar_row (P := Tryz.prog) wf (w.heap.size + 1) 219 219 #[.int .i64 0, .int .i64 0, .int .i64 0] (0, 0) _ hH.b1 Tryz.underlying219 rfl info_cut
 simp [asAddr, Result.andThen, hl0, hl1]
end Go.Proofs.YtfpfabmbipmipaaGreatDoor
