/- Own text. -/
import Derived.Test.YtfpfabmbipmipaaGreatDoorB9
set_option linter.unusedSimpArgs false
set_option linter.unusedVariables false
set_option maxRecDepth 20000
set_option maxHeartbeats 12800000
namespace Go.Proofs.YtfpfabmbipmipaaGreatDoor
open Go.RowKit
structure DS (q : Nat) (s : ByteArray) (k gp ge N : Nat) (m o : Int) (P E : List Int) (a : Nat) (w : World) : Prop where
 rd : Rd w q s a
 bk : w.heap[k]? = some (.cells #[.int .i64 m, .int .i64 o, .slice (some ⟨gp, 0, none⟩) N N, .slice (some ⟨ge, 0, none⟩) N N] 65 (0, 0))
 bp : IntsBlk w gp P
 be : IntsBlk w ge E
 lp : P.length = N
 le : E.length = N
 n32 : N <= 32768
 al : a <= 8 * s.size
structure Dist (q k gp ge : Nat) : Prop where
 qk : q ≠ k
 qp : q ≠ gp
 qe : q ≠ ge
 kp : k ≠ gp
 ke : k ≠ ge
 pe : gp ≠ ge
def S3 (q gp ge : Nat) (b : Nat) : Prop := b = q ∨ b = gp ∨ b = ge
section
variable {q : Nat} {s : ByteArray} {k gp ge N : Nat} {m o : Int} {P E : List Int} {a a' : Nat} {w w' : World}
theorem DS.cells (h : DS q s k gp ge N m o P E a w) : w.cell? ⟨k, 0, none⟩ = some (.int .i64 m) /\ w.cell? ⟨k, 1, none⟩ = some (.int .i64 o) /\ w.cell? ⟨k, 2, none⟩ = some (.slice (some ⟨gp, 0, none⟩) N N) /\ w.cell? ⟨k, 3, none⟩ = some (.slice (some ⟨ge, 0, none⟩) N N) := by
 refine ⟨?_, ?_, ?_, ?_⟩ <;> (rw [cell_of_row _ _ _ _ _ _ h.bk]; rfl)
theorem DS.only (h : DS q s k gp ge N m o P E a w) (d : Dist q k gp ge) (hr : Rd w' q s a') (ha : a' <= 8 * s.size) (hS : Stays (only q) w w') : DS q s k gp ge N m o P E a' w' :=
 ⟨hr, by rw [hS.block _ (lt_of_block h.bk) (fun e => d.qk e.symm)]; exact h.bk, h.bp.stays hS (fun e => d.qp e.symm), h.be.stays hS (fun e => d.qe e.symm), h.lp, h.le, h.n32, ha⟩
theorem DS.low (h : DS q s k gp ge N m o P E a w) (hb : Lo w w') : DS q s k gp ge N m o P E a w' :=
 ⟨h.rd.below hb, by rw [hb.block _ (lt_of_block h.bk)]; exact h.bk, h.bp.below hb, h.be.below hb, h.lp, h.le, h.n32, h.al⟩
theorem only_s3 (h : Stays (only q) w w') : Stays (S3 q gp ge) w w' := h.mono (fun i _ hi => Or.inl hi)
theorem Rd.other (h : Rd w q s a) (p : Addr) (u : Value) (hp : p.block ≠ q) : Rd (w.setCell p u) q s a := by
 unfold Rd; rw [Below.heap_setCell w p u q (fun e => hp e.symm)]; exact h
theorem DS.setP (h : DS q s k gp ge N m o P E a w) (d : Dist q k gp ge) (i : Nat) (v : Int) : DS q s k gp ge N m o (P.set i v) E a (w.setCell ⟨gp, i, none⟩ (.int .i64 v)) :=
 ⟨h.rd.other _ _ (fun e => d.qp e.symm), by rw [Below.heap_setCell w _ _ k (fun e => d.kp e)]; exact h.bk, h.bp.set i v, h.be.other _ _ d.pe, by rw [List.length_set]; exact h.lp, h.le, h.n32, h.al⟩
theorem DS.setE (h : DS q s k gp ge N m o P E a w) (d : Dist q k gp ge) (i : Nat) (v : Int) : DS q s k gp ge N m o P (E.set i v) a (w.setCell ⟨ge, i, none⟩ (.int .i64 v)) :=
 ⟨h.rd.other _ _ (fun e => d.qe e.symm), by rw [Below.heap_setCell w _ _ k (fun e => d.ke e)]; exact h.bk, h.bp.other _ _ (fun e => d.pe e.symm), h.be.set i v, h.lp, by rw [List.length_set]; exact h.le, h.n32, h.al⟩
end
theorem set_same (P : List Int) (i : Nat) (h : P.getD i 0 = 0) : P.set i 0 = P := by
 apply List.ext_getElem?
 intro j
 rw [List.getElem?_set]
 split
 ·rename_i e; subst e
  split
  ·rename_i hi
   rw [List.getD_eq_getElem?_getD] at h
   rw [List.getElem?_eq_getElem hi] at h ⊢
   simp at h
   rw [h]
  ·rename_i hi
   rw [List.getElem?_eq_none (by omega)]
 ·rfl
theorem head_no (q : Nat) (s : ByteArray) (hs : s.size <= 1000000000000000000) (k gp ge N : Nat) (m o : Int) (P E : List Int) (a i : Nat) (m0 : 0 <= m) (m1 : m <= 1) (hi : i < N) (d : Dist q k gp ge) (w : World) (h : DS q s k gp ge N m o P E a w) (hn : rdHead s a m = none) :
  Calls Tryz.prog 223 #[.pointer (some ⟨q, 0, none⟩), .pointer (some ⟨k, 0, none⟩), .int .i64 (i : Int)] w fun en w' => en = .returned (.bool false) /\ Stays (S3 q gp ge) w w' := by
 have KW : Hid (∀ wx, G0 213 #[.int .i64 m] wx (.int .i64 (4 + m))) := fun wx => pw_spec m m0 m1 wx
 have KM : Hid (∀ wx, G0 214 #[.int .i64 m] wx (.int .i64 (15 + 16 * m))) := fun wx => mark_spec m m0 m1 wx
 have HD := kQ h
 have HDi := kQ d
 have kn := number_spec q s hs a h.al (4 + m) (by omega) (by omega) w h.rd
 have hv := getV_m s a m m0 m1
 have hn32 := h.n32
 have hal := h.al
 obtain ⟨x0, x1, x2, x3⟩ := h.cells
 have hle2 := getA_le s a (4 + m) h.al
 clear h d
 by_cases g0 : getE s a (4 + m) = 0
 focus
  have g1 : getV s a (4 + m) = 15 + 16 * m := by
   apply Classical.byContradiction
   intro hh
   unfold rdHead at hn
   rw [if_pos g0, if_neg hh] at hn
   cases hn
  have g2 : ¬ getE s (getA s a (4 + m)) 5 = 0 := fun hh => by
   unfold rdHead at hn
   rw [if_pos g0, if_pos g1, if_pos hh] at hn
   cases hn
  have HG2 : Hid ((getE s (getA s a (4 + m)) 5 == 0) = false) := by show _ = _; rw [beq_eq_false_iff_ne]; exact g2
  rw [g0, g1] at kn
  clear hn g0 g1 g2 hv
  have hb0 : ((0 : Int) == 0) = true := rfl
  have hbm : ((15 + 16 * m) != (15 + 16 * m)) = false := by rw [bne_eq_false_iff_eq]
 rotate_left
 focus
  have hb0 : (getE s a (4 + m) == 0) = false := by rw [beq_eq_false_iff_ne]; exact g0
  rw [hb0] at kn
  clear hn g0 hb0
 rotate_left
 all_goals
  go_enter Tryz.func223, Tryz.ntmps223
  go_wp2_with fail
  refine (KW.out w).mono ?_
  rintro e wx ⟨rfl, rfl⟩
  go_wp2_with fail
  refine kn.mono ?_
  rintro e w2 ⟨rfl, h2, h3⟩
  have HS2 := kQ h3
  have HD2 := kQ (HD.out.only HDi.out h2 hle2 h3)
  clear kn h2 h3 x0 x1 x2 x3
 ·obtain ⟨x0, x1, x2, x3⟩ := HD2.out.cells
  go_wp2_with fail
  refine (KM.out w2).mono ?_
  rintro e w3 ⟨rfl, rfl⟩
  have HDD : Hid (DS q s k gp ge N m o P E (getA s a (4 + m)) w3.drew) := HD2.out.low dQ
  have HSC : Hid (∀ a' wx, Hid (DS q s k gp ge N m o P E a' wx) -> wx.cell? ⟨k, 3, none⟩ = some (.slice (some ⟨ge, 0, none⟩) N N) /\ wx.cell? ⟨ge, i, none⟩ = some (.int .i64 (E.getD i 0)) /\ wx.frozen? ⟨ge, i, none⟩ = false) := fun a' wx hh => ⟨hh.out.cells.2.2.2, hh.out.be.cell i (by rw [hh.out.le]; exact hi), hh.out.be.frozen i⟩
  have HSK : Hid (∀ a' wx v, Hid (DS q s k gp ge N m o P E a' wx) -> (wx.setCell ⟨ge, i, none⟩ v).cell? ⟨k, 3, none⟩ = some (.slice (some ⟨ge, 0, none⟩) N N)) := fun a' wx v hh => by
   rw [World.cell?_of_block (w := wx) (Below.heap_setCell wx _ _ k (fun e => HDi.out.ke e))]
   exact hh.out.cells.2.2.2
  have K5 : Hid (∀ wx, Hid (DS q s k gp ge N m o P E (getA s a (4 + m)) wx) -> Calls Tryz.prog 232 #[.pointer (some ⟨q, 0, none⟩), .int .i64 5] wx fun en w' => en = .returned (.tuple #[.int .i64 (getV s (getA s a (4 + m)) 5), .bool false]) /\ Hid (DS q s k gp ge N m o P E (getA s (getA s a (4 + m)) 5) w') /\ Hid (Stays (only q) wx w')) := fun wx hh => (number_spec q s hs _ hle2 5 (by omega) (by omega) wx hh.out.rd).mono fun e w' hq => ⟨by rw [hq.1, HG2.out], hh.out.only HDi.out hq.2.1 (getA_le _ _ _ hle2) hq.2.2, hq.2.2⟩
  clear x0 x1 x2 x3 HD2 HD
  go_wp2_with fail
  go_region_held3 (fun wx => wx.cell? ⟨k, 3, none⟩ = some (.slice (some ⟨ge, 0, none⟩) N N)) (first | exact (HSC.out _ _ (by assumption)).1 | exact HSK.out _ _ _ (by assumption))
   ((go_at_call 232; refine (K5.out _ (by assumption)).mono ?_; rintro e w5 ⟨rfl, h5, h6⟩; obtain ⟨y3, yi, yf⟩ := HSC.out _ _ h5))
  all_goals go_wp2_with fail
  all_goals go_ret
  all_goals have HST : Stays (S3 q gp ge) wx (w5.setCell ⟨ge, i, none⟩ (.int .i64 (getV s (getA s a (4 + m)) 5))) := (((only_s3 HS2.out).drew).trans (only_s3 h6.out) (fun _ _ h => h)).setCell _ _ (Or.inl (Or.inr (Or.inr rfl)))
  all_goals exact ⟨rfl, HST⟩
 ·go_wp2_with fail
  go_ret
  exact ⟨rfl, only_s3 HS2.out⟩
theorem head_yes (q : Nat) (s : ByteArray) (hs : s.size <= 1000000000000000000) (k gp ge N : Nat) (m o : Int) (P E : List Int) (a i : Nat) (m0 : 0 <= m) (m1 : m <= 1) (hi : i < N) (d : Dist q k gp ge) (w : World) (h : DS q s k gp ge N m o P E a w) (kk ee : Int) (a3 : Nat) (hz : P.getD i 0 = 0) (hn : rdHead s a m = some (kk, ee, a3)) :
  Calls Tryz.prog 223 #[.pointer (some ⟨q, 0, none⟩), .pointer (some ⟨k, 0, none⟩), .int .i64 (i : Int)] w fun en w' => en = .returned (.bool true) /\ DS q s k gp ge N m o (P.set i kk) (E.set i ee) a3 w' /\ Stays (S3 q gp ge) w w' := by
 have KW : Hid (∀ wx, G0 213 #[.int .i64 m] wx (.int .i64 (4 + m))) := fun wx => pw_spec m m0 m1 wx
 have KM : Hid (∀ wx, G0 214 #[.int .i64 m] wx (.int .i64 (15 + 16 * m))) := fun wx => mark_spec m m0 m1 wx
 have HD := kQ h
 have HDi := kQ d
 have kn := number_spec q s hs a h.al (4 + m) (by omega) (by omega) w h.rd
 have hv := getV_m s a m m0 m1
 have hn32 := h.n32
 have hal := h.al
 obtain ⟨x0, x1, x2, x3⟩ := h.cells
 have hle2 := getA_le s a (4 + m) h.al
 clear h d
 have g0 : getE s a (4 + m) = 0 := by
  apply Classical.byContradiction
  intro hh
  unfold rdHead at hn
  rw [if_neg hh] at hn
  cases hn
 have hb0 : ((0 : Int) == 0) = true := rfl
 by_cases g1 : getV s a (4 + m) = 15 + 16 * m
 focus
  have g2 : getE s (getA s a (4 + m)) 5 = 0 := by
   apply Classical.byContradiction
   intro hh
   unfold rdHead at hn
   rw [if_pos g0, if_pos g1, if_neg hh] at hn
   cases hn
  have HG2 : Hid ((getE s (getA s a (4 + m)) 5 == 0) = true) := by show _ = _; rw [g2]; rfl
  unfold rdHead at hn
  rw [if_pos g0, if_pos g1, if_pos g2] at hn
  cases hn
  have HPZ : Hid (P.set i 0 = P) := set_same P i hz
  rw [g0, g1] at kn
  clear g0 g1 g2 hv hz
  have hbm : ((15 + 16 * m) != (15 + 16 * m)) = false := by rw [bne_eq_false_iff_eq]
 rotate_left
 focus
  unfold rdHead at hn
  rw [if_pos g0, if_neg g1] at hn
  cases hn
  rw [g0] at kn
  have hbm : (getV s a (4 + m) != (15 + 16 * m)) = true := by rw [bne_iff_ne]; exact g1
  clear g0 g1 hz
  generalize getV s a (4 + m) = v at *
 rotate_left
 all_goals
  go_enter Tryz.func223, Tryz.ntmps223
  go_wp2_with fail
  refine (KW.out w).mono ?_
  rintro e wx ⟨rfl, rfl⟩
  go_wp2_with fail
  refine kn.mono ?_
  rintro e w2 ⟨rfl, h2, h3⟩
  have HS2 := kQ h3
  have HD2 := kQ (HD.out.only HDi.out h2 hle2 h3)
  clear kn h2 h3 x0 x1 x2 x3
  obtain ⟨x0, x1, x2, x3⟩ := HD2.out.cells
  go_wp2_with fail
  refine (KM.out w2).mono ?_
  rintro e w3 ⟨rfl, rfl⟩
 ·have HDD : Hid (DS q s k gp ge N m o P E (getA s a (4 + m)) w3.drew) := HD2.out.low dQ
  have HSC : Hid (∀ a' wx, Hid (DS q s k gp ge N m o P E a' wx) -> wx.cell? ⟨k, 3, none⟩ = some (.slice (some ⟨ge, 0, none⟩) N N) /\ wx.cell? ⟨ge, i, none⟩ = some (.int .i64 (E.getD i 0)) /\ wx.frozen? ⟨ge, i, none⟩ = false) := fun a' wx hh => ⟨hh.out.cells.2.2.2, hh.out.be.cell i (by rw [hh.out.le]; exact hi), hh.out.be.frozen i⟩
  have HSK : Hid (∀ a' wx v, Hid (DS q s k gp ge N m o P E a' wx) -> (wx.setCell ⟨ge, i, none⟩ v).cell? ⟨k, 3, none⟩ = some (.slice (some ⟨ge, 0, none⟩) N N)) := fun a' wx v hh => by
   rw [World.cell?_of_block (w := wx) (Below.heap_setCell wx _ _ k (fun e => HDi.out.ke e))]
   exact hh.out.cells.2.2.2
  have K5 : Hid (∀ wx, Hid (DS q s k gp ge N m o P E (getA s a (4 + m)) wx) -> Calls Tryz.prog 232 #[.pointer (some ⟨q, 0, none⟩), .int .i64 5] wx fun en w' => en = .returned (.tuple #[.int .i64 (getV s (getA s a (4 + m)) 5), .bool true]) /\ Hid (DS q s k gp ge N m o P E (getA s (getA s a (4 + m)) 5) w') /\ Hid (Stays (only q) wx w')) := fun wx hh => (number_spec q s hs _ hle2 5 (by omega) (by omega) wx hh.out.rd).mono fun e w' hq => ⟨by rw [hq.1, HG2.out], hh.out.only HDi.out hq.2.1 (getA_le _ _ _ hle2) hq.2.2, hq.2.2⟩
  clear x0 x1 x2 x3 HD2 HD
  go_wp2_with fail
  go_region_held3 (fun wx => wx.cell? ⟨k, 3, none⟩ = some (.slice (some ⟨ge, 0, none⟩) N N)) (first | exact (HSC.out _ _ (by assumption)).1 | exact HSK.out _ _ _ (by assumption))
   ((go_at_call 232; refine (K5.out _ (by assumption)).mono ?_; rintro e w5 ⟨rfl, h5, h6⟩; obtain ⟨y3, yi, yf⟩ := HSC.out _ _ h5))
  all_goals go_wp2_with fail
  all_goals go_ret
  all_goals have HST : Stays (S3 q gp ge) wx (w5.setCell ⟨ge, i, none⟩ (.int .i64 (getV s (getA s a (4 + m)) 5))) := (((only_s3 HS2.out).drew).trans (only_s3 h6.out) (fun _ _ h => h)).setCell _ _ (Or.inl (Or.inr (Or.inr rfl)))
  all_goals exact ⟨rfl, by rw [HPZ.out]; exact h5.out.setE HDi.out i _, HST⟩
 ·have yp := HD2.out.bp.cell i (by rw [HD2.out.lp]; exact hi)
  have ye := HD2.out.be.cell i (by rw [HD2.out.le]; exact hi)
  have fp := HD2.out.bp.frozen i
  have fe := HD2.out.be.frozen i
  have hpe := HDi.out.pe
  have hep : ge ≠ gp := fun e => hpe e.symm
  have HD3 : Hid (DS q s k gp ge N m o P E (getA s a (4 + m)) w3.drew) := HD2.out.low dQ
  go_wp2_with fail
  go_region
  all_goals go_wp2_with fail
  all_goals go_ret
  all_goals refine ⟨rfl, ?_, ?_⟩
  all_goals first
   | exact (HD3.out.setP HDi.out i v).setE HDi.out i (-1)
   | exact (HD3.out.setE HDi.out i (-1)).setP HDi.out i v
   | exact (((only_s3 (gp := gp) (ge := ge) HS2.out).setCell ⟨gp, i, none⟩ (.int .i64 v) (Or.inl (Or.inr (Or.inl rfl)))).setCell ⟨ge, i, none⟩ (.int .i64 (-1)) (Or.inl (Or.inr (Or.inr rfl)))).drew
   | exact (((only_s3 (gp := gp) (ge := ge) HS2.out).setCell ⟨ge, i, none⟩ (.int .i64 (-1)) (Or.inl (Or.inr (Or.inr rfl)))).setCell ⟨gp, i, none⟩ (.int .i64 v) (Or.inl (Or.inr (Or.inl rfl)))).drew
def RPost (R : Option (List Int × Nat)) (no : Prop) (yes : List Int -> Nat -> Prop) : Prop := match R with
 | none => no
 | some (X, a2) => yes X a2
theorem RPost.none_ {R : Option (List Int × Nat)} {no : Prop} {yes : List Int -> Nat -> Prop} (h : R = none) (hn : no) : RPost R no yes := by rw [h]; exact hn
theorem RPost.some_ {R : Option (List Int × Nat)} {no : Prop} {yes : List Int -> Nat -> Prop} {X : List Int} {a : Nat} (h : R = some (X, a)) (hn : yes X a) : RPost R no yes := by rw [h]; exact hn
def S2 (q gl : Nat) (b : Nat) : Prop := b = q ∨ b = gl
theorem set_mid (A X C : List Int) (z : Nat) (v : Int) (hz : 0 < z) : (A ++ X ++ List.replicate z 0 ++ C).set (A.length + X.length) v = A ++ (X ++ [v]) ++ List.replicate (z - 1) 0 ++ C := by
 obtain ⟨z, rfl⟩ : ∃ y, z = y + 1 := ⟨z - 1, by omega⟩
 rw [List.append_assoc (A ++ X), List.set_append_right _ _ (by rw [List.length_append]; omega)]
 rw [List.length_append, Nat.sub_self, List.replicate_succ, List.cons_append, List.set_cons_zero]
 simp
section
variable {q : Nat} {s : ByteArray} {k gp ge N : Nat} {m o : Int} {P E : List Int} {a a' : Nat} {w w' : World}
theorem DS.other (h : DS q s k gp ge N m o P E a w) (p : Addr) (u : Value) (h1 : p.block ≠ q) (h2 : p.block ≠ k) (h3 : p.block ≠ gp) (h4 : p.block ≠ ge) : DS q s k gp ge N m o P E a (w.setCell p u) :=
 ⟨h.rd.other _ _ h1, by rw [Below.heap_setCell w _ _ k (fun e => h2 e.symm)]; exact h.bk, h.bp.other _ _ h3, h.be.other _ _ h4, h.lp, h.le, h.n32, h.al⟩
end
theorem rpart_spec (q : Nat) (s : ByteArray) (hs : s.size <= 1000000000000000000) (k gp ge gl N : Nat) (m o : Int) (P E : List Int) (a i : Nat) (hi : i < N) (d : Dist q k gp ge) (g1 : gl ≠ q) (g2 : gl ≠ k) (g3 : gl ≠ gp) (g4 : gl ≠ ge) (n : Nat) (hn : n <= 65535) (A C : List Int) (xo : OA) (cap : Nat) (hxo : 0 < n -> xo = some ⟨gl, A.length, none⟩) (hm : mayOk m (P.getD i 0) (E.getD i 0)) (hm1 : m <= 1) (w : World) (h : DS q s k gp ge N m o P E a w) (hl : IntsBlk w gl (A ++ List.replicate n 0 ++ C)) :
  Calls Tryz.prog 224 #[.pointer (some ⟨q, 0, none⟩), .agg #[.int .i64 m, .int .i64 o, .slice (some ⟨gp, 0, none⟩) N N, .slice (some ⟨ge, 0, none⟩) N N], .int .i64 (i : Int), .slice xo n cap] w fun en w' => RPost (rdAll s (P.getD i 0) (E.getD i 0) n a) (en = .returned (.bool false) /\ Stays (S2 q gl) w w') (fun X a2 => en = .returned (.bool true) /\ DS q s k gp ge N m o P E a2 w' /\ IntsBlk w' gl (A ++ X ++ C) /\ Stays (S2 q gl) w w') := by
 have hiP : i < P.length := by rw [h.lp]; exact hi
 have hiE : i < E.length := by rw [h.le]; exact hi
 have hn32 := h.n32
 have hkm : 0 <= P.getD i 0 /\ P.getD i 0 <= 30 /\ -1 <= E.getD i 0 /\ E.getD i 0 <= 31 := by unfold mayOk at hm; omega
 have HB : Hid (Lo w (w.alloc (.cells #[.int .i64 m, .int .i64 o, .slice (some ⟨gp, 0, none⟩) N N, .slice (some ⟨ge, 0, none⟩) N N] 65))) := aQ
 have HDa := kQ (h.low HB.out)
 have HLa := kQ (hl.below HB.out)
 have HDi := kQ d
 have hbx : (w.alloc (.cells #[.int .i64 m, .int .i64 o, .slice (some ⟨gp, 0, none⟩) N N, .slice (some ⟨ge, 0, none⟩) N N] 65)).heap[w.heap.size]? = some (.cells #[.int .i64 m, .int .i64 o, .slice (some ⟨gp, 0, none⟩) N N, .slice (some ⟨ge, 0, none⟩) N N] 65 (0, 0)) := heap_alloc_new _ _
 have x2 : (w.alloc (.cells #[.int .i64 m, .int .i64 o, .slice (some ⟨gp, 0, none⟩) N N, .slice (some ⟨ge, 0, none⟩) N N] 65)).cell? ⟨w.heap.size, 2, none⟩ = some (.slice (some ⟨gp, 0, none⟩) N N) := by rw [cell_of_row _ _ _ _ _ _ hbx]; rfl
 have x3 : (w.alloc (.cells #[.int .i64 m, .int .i64 o, .slice (some ⟨gp, 0, none⟩) N N, .slice (some ⟨ge, 0, none⟩) N N] 65)).cell? ⟨w.heap.size, 3, none⟩ = some (.slice (some ⟨ge, 0, none⟩) N N) := by rw [cell_of_row _ _ _ _ _ _ hbx]; rfl
 have yp := HDa.out.bp.cell i hiP
 have ye := HDa.out.be.cell i hiE
 have HXO := kQ hxo
 clear h hl hbx hxo hm
 generalize P.getD i 0 = kk at *
 generalize E.getD i 0 = ee at *
 obtain ⟨k0, k1, e0, e1⟩ := hkm
 by_cases hz : ee = 0
 ·subst hz
  have HZR : Hid (rdAll s kk 0 n a = some (List.replicate n 0, a)) := rdAll_zero n a
  go_enter Tryz.func224, Tryz.ntmps224
  go_wp2_with fail
  generalize w.alloc _ = wa at *
  go_quiet (fail)
  go_wp2_with fail
  go_ret
  exact RPost.some_ HZR.out ⟨rfl, HDa.out.low (below_drewN _ _), HLa.out.below (below_drewN _ _), (Stays.of_below HB.out _).drewN _⟩
 ·have hbz : (ee == 0) = false := by rw [beq_eq_false_iff_ne]; exact hz
  have HZ := kQ hz
  clear hz
  go_enter Tryz.func224, Tryz.ntmps224
  go_wp2_with fail
  generalize w.alloc _ = wa at *
  go_quiet (fail)
  clear x2 x3 yp ye
  go_wp2_with fail
  have HDb : Hid (DS q s k gp ge N m o P E a (wa.drewN nq)) := HDa.out.low (below_drewN _ _)
  have HLb : Hid (IntsBlk (wa.drewN nq) gl (A ++ List.replicate n 0 ++ C)) := HLa.out.below (below_drewN _ _)
  have HSb : Hid (Stays (S2 q gl) w (wa.drewN nq)) := (Stays.of_below HB.out _).drewN _
  clear HDa HLa HB
  generalize wa.drewN nq = wb at *
  go_loopw [11, 12, 13, 28] (fun s11 s12 s13 s28 wr => ∃ (j : Nat) (X : List Int) (aj : Nat), j <= n /\ s28 = .int .i64 (j : Int) /\ rdAll s kk ee j a = some (X, aj) /\ DS q s k gp ge N m o P E aj wr /\ IntsBlk wr gl (A ++ X ++ List.replicate (n - j) 0 ++ C) /\ Stays (S2 q gl) w wr) (fun _ _ _ s28 _ => n - (intOf s28).toNat)
  case atStart => exact ⟨0, [], a, Nat.zero_le _, rfl, rfl, HDb.out, by rw [List.append_nil]; exact HLb.out, HSb.out⟩
  case round =>
   clear HDb HLb HSb
   obtain ⟨j, X, aj, hj, rfl, hrd, hds, hli, hst⟩ := hrel
   have HRD := kQ hrd
   have HDS := kQ hds
   have HLI := kQ hli
   have HST := kQ hst
   have hxl : X.length = j := rdAll_len hrd
   clear hrd hds hli hst
   by_cases hlt : j < n
   ·have exo := HXO.out (by omega)
    subst exo
    have ko := readOne_spec q s hs aj HDS.out.al kk ee HZ.out wr HDS.out.rd
    by_cases hge : rdE s aj kk ee = 0
    ·have HNX : Hid (rdAll s kk ee (j + 1) a = some (X ++ [rdV s aj kk ee], rdA s aj kk ee)) := rdAll_some HRD.out hge
     have hvb := rd_bound s aj kk ee (by omega) (by omega)
     rw [hge] at ko
     clear hge
     have hAl := rdA_le s aj kk ee HDS.out.al
     generalize rdV s aj kk ee = v at *
     generalize rdA s aj kk ee = a' at *
     go_wp2_with fail
     refine ko.mono ?_
     rintro e w3 ⟨rfl, h3, h4⟩
     have HD3 := kQ (HDS.out.only HDi.out h3 hAl h4)
     have HL3 : Hid (IntsBlk w3 gl (A ++ X ++ List.replicate (n - j) 0 ++ C)) := HLI.out.stays h4 (fun e => g1 e)
     have HS3 : Hid (Stays (S2 q gl) w w3) := HST.out.trans h4 (fun _ _ h => Or.inl h)
     clear ko h3 h4
     have yc := HL3.out.cell (A.length + j) (by simp only [List.length_append, List.length_replicate]; omega)
     have yf := HL3.out.frozen (A.length + j)
     generalize (A ++ X ++ List.replicate (n - j) 0 ++ C).getD (A.length + j) 0 = vv at yc
     go_wp2_with fail
     go_roundw
     case rel =>
      refine ⟨j + 1, X ++ [v], a', by omega, by go_num, HNX.out, HD3.out.other _ _ g1 g2 g3 g4, ?_, HS3.out.setCell _ _ (Or.inl (Or.inr rfl))⟩
      have hh := HL3.out.set (A.length + j) v
      rw [show A.length + j = A.length + X.length by omega, set_mid A X C (n - j) v (by omega)] at hh
      rw [show n - (j + 1) = n - j - 1 by omega]
      rw [show A.length + j = A.length + X.length by omega]
      exact hh
     case measure => simp [intOf]; omega
    ·have HNO : Hid (rdAll s kk ee n a = none) := rdAll_none n (rdAll_stop HRD.out hge) (by omega)
     have hbg : (rdE s aj kk ee != 0) = true := by rw [bne_iff_ne]; exact hge
     clear hge
     generalize rdV s aj kk ee = v at *
     generalize rdE s aj kk ee = ev at *
     go_wp2_with fail
     refine ko.mono ?_
     rintro e w3 ⟨rfl, h3, h4⟩
     have HS3 : Hid (Stays (S2 q gl) w w3) := HST.out.trans h4 (fun _ _ h => Or.inl h)
     clear ko h3 h4
     go_wp2_with fail
     go_ret
     exact RPost.none_ HNO.out ⟨rfl, HS3.out⟩
   ·have hjn : j = n := by omega
    subst hjn
    have HLE : Hid (A ++ X ++ List.replicate (j - j) 0 ++ C = A ++ X ++ C) := by show _ = _; rw [Nat.sub_self, List.replicate_zero, List.append_nil]
    go_wp2_with fail
    go_ret
    exact RPost.some_ HRD.out ⟨rfl, HDS.out, by have := HLI.out; rw [HLE.out] at this; exact this, HST.out⟩
end Go.Proofs.YtfpfabmbipmipaaGreatDoor
