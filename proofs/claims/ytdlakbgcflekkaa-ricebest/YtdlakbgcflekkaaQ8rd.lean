/- Own text: the walk of the program's readPartHead. -/
import Derived.Test.YtdlakbgcflekkaaQ8num
namespace Go.Proofs.Ytdlakbgcflekkaa
open Go.RowKit
set_option linter.unusedSimpArgs false
set_option linter.unusedVariables false

/-- A recipe that is being read, and the reader. -/
structure DS (q : Nat) (s : ByteArray) (k gp ge N : Nat) (m o : Int) (P E : List Int) (a : Nat) (w : World) : Prop where
  rd : Rd w q s a
  bk : w.heap[k]? = some (.cells #[.int .i64 m, .int .i64 o, .slice (some ⟨gp, 0, none⟩) N N, .slice (some ⟨ge, 0, none⟩) N N] 24 (0, 0))
  bp : IntsBlk w gp P
  be : IntsBlk w ge E
  lp : P.length = N
  le : E.length = N
  n32 : N ≤ 32768
  al : a ≤ 8 * s.size
structure Dist (q k gp ge : Nat) : Prop where
  qk : q ≠ k
  qp : q ≠ gp
  qe : q ≠ ge
  kp : k ≠ gp
  ke : k ≠ ge
  pe : gp ≠ ge
def S3 (q gp ge : Nat) (b : Nat) : Prop := b = q ∨ b = gp ∨ b = ge
section
variable {q : Nat} {s : ByteArray} {k gp ge N : Nat} {m o : Int} {P E : List Int} {a a' : Nat} {w w' : World}
theorem DS.cells (h : DS q s k gp ge N m o P E a w) : w.cell? ⟨k, 0, none⟩ = some (.int .i64 m) ∧ w.cell? ⟨k, 1, none⟩ = some (.int .i64 o) ∧ w.cell? ⟨k, 2, none⟩ = some (.slice (some ⟨gp, 0, none⟩) N N) ∧ w.cell? ⟨k, 3, none⟩ = some (.slice (some ⟨ge, 0, none⟩) N N) := by
  refine ⟨?_, ?_, ?_, ?_⟩ <;> (rw [cell_of_row _ _ _ _ _ _ h.bk]; rfl)
theorem DS.only (h : DS q s k gp ge N m o P E a w) (d : Dist q k gp ge) (hr : Rd w' q s a') (ha : a' ≤ 8 * s.size) (hS : Stays (only q) w w') : DS q s k gp ge N m o P E a' w' :=
  ⟨hr, by rw [hS.block _ (lt_of_block h.bk) (fun e => d.qk e.symm)]; exact h.bk, h.bp.stays hS (fun e => d.qp e.symm), h.be.stays hS (fun e => d.qe e.symm), h.lp, h.le, h.n32, ha⟩
theorem DS.low (h : DS q s k gp ge N m o P E a w) (hb : Below w.heap.size w w') : DS q s k gp ge N m o P E a w' :=
  ⟨h.rd.below hb, by rw [hb.block _ (lt_of_block h.bk)]; exact h.bk, h.bp.below hb, h.be.below hb, h.lp, h.le, h.n32, h.al⟩
theorem only_s3 (h : Stays (only q) w w') : Stays (S3 q gp ge) w w' := h.mono (fun i _ hi => Or.inl hi)
theorem Rd.other (h : Rd w q s a) (p : Addr) (u : Value) (hp : p.block ≠ q) : Rd (w.setCell p u) q s a := by
  unfold Rd; rw [Below.heap_setCell w p u q (fun e => hp e.symm)]; exact h
theorem DS.setP (h : DS q s k gp ge N m o P E a w) (d : Dist q k gp ge) (i : Nat) (v : Int) : DS q s k gp ge N m o (P.set i v) E a (w.setCell ⟨gp, i, none⟩ (.int .i64 v)) :=
  ⟨h.rd.other _ _ (fun e => d.qp e.symm), by rw [Below.heap_setCell w _ _ k (fun e => d.kp e)]; exact h.bk, h.bp.set i v, h.be.other _ _ d.pe, by rw [List.length_set]; exact h.lp, h.le, h.n32, h.al⟩
theorem DS.setE (h : DS q s k gp ge N m o P E a w) (d : Dist q k gp ge) (i : Nat) (v : Int) : DS q s k gp ge N m o P (E.set i v) a (w.setCell ⟨ge, i, none⟩ (.int .i64 v)) :=
  ⟨h.rd.other _ _ (fun e => d.qe e.symm), by rw [Below.heap_setCell w _ _ k (fun e => d.ke e)]; exact h.bk, h.bp.other _ _ (fun e => d.pe e.symm), h.be.set i v, h.lp, by rw [List.length_set]; exact h.le, h.n32, h.al⟩
end
theorem set_same (P : List Int) (i : Nat) (h : P.getD i 0 = 0) : P.set i 0 = P := by
  apply List.ext_getElem?
  intro j
  rw [List.getElem?_set]
  split
  · rename_i e; subst e
    split
    · rename_i hi
      rw [List.getD_eq_getElem?_getD] at h
      rw [List.getElem?_eq_getElem hi] at h ⊢
      simp at h
      rw [h]
    · rename_i hi
      rw [List.getElem?_eq_none (by omega)]
  · rfl
set_option maxRecDepth 20000 in
set_option maxHeartbeats 3200000 in
theorem head_no (q : Nat) (s : ByteArray) (hs : s.size ≤ 1000000000000000000) (k gp ge N : Nat) (m o : Int) (P E : List Int) (a i : Nat) (m0 : 0 ≤ m) (m1 : m ≤ 1) (hi : i < N) (d : Dist q k gp ge) (w : World) (h : DS q s k gp ge N m o P E a w) (hn : rdHead s a m = none) :
    Calls Try.prog 44 #[.pointer (some ⟨q, 0, none⟩), .pointer (some ⟨k, 0, none⟩), .int .i64 (i : Int)] w fun en w' => en = .returned (.bool false) ∧ Stays (S3 q gp ge) w w' := by
  have KW : Hid (∀ wx, Calls Try.prog 57 #[.int .i64 m] wx fun e w' => e = .returned (.int .i64 (4 + m)) ∧ w' = wx) := fun wx => pw_spec m m0 m1 wx
  have KM : Hid (∀ wx, Calls Try.prog 58 #[.int .i64 m] wx fun e w' => e = .returned (.int .i64 (15 + 16 * m)) ∧ w' = wx) := fun wx => mark_spec m m0 m1 wx
  have HD : Hid (DS q s k gp ge N m o P E a w) := h
  have HDi : Hid (Dist q k gp ge) := d
  have kn := number_spec q s hs a h.al (4 + m) (by omega) (by omega) w h.rd
  have hv := getV_m s a m m0 m1
  have hn32 := h.n32
  have hal := h.al
  obtain ⟨x0, x1, x2, x3⟩ := h.cells
  have hle2 := getA_le s a (4 + m) h.al
  clear h d
  by_cases g0 : getE s a (4 + m) = 0
  · have g1 : getV s a (4 + m) = 15 + 16 * m := by
      apply Classical.byContradiction
      intro hh
      unfold rdHead at hn
      rw [if_pos g0, if_neg hh] at hn
      cases hn
    have g2 : ¬ getE s (getA s a (4 + m)) 5 = 0 := fun hh => by
      unfold rdHead at hn
      rw [if_pos g0, if_pos g1, if_pos hh] at hn
      cases hn
    have HG2 : Hid ((getE s (getA s a (4 + m)) 5 == 0) = false) := by show _ = _; rw [beq_eq_false_iff_ne]; exact g2
    rw [g0, g1] at kn
    clear hn g0 g1 g2 hv
    have hb0 : ((0 : Int) == 0) = true := rfl
    have hbm : ((15 + 16 * m) != (15 + 16 * m)) = false := by rw [bne_eq_false_iff_eq]
    go_enter Try.func44, Try.ntmps44
    go_wp2_with fail
    refine (KW.out w).mono ?_
    rintro e wx ⟨rfl, rfl⟩
    go_wp2_with fail
    refine kn.mono ?_
    rintro e w2 ⟨rfl, h2, h3⟩
    have HS2 : Hid (Stays (only q) wx w2) := h3
    have HD2 : Hid (DS q s k gp ge N m o P E (getA s a (4 + m)) w2) := HD.out.only HDi.out h2 hle2 h3
    clear kn h2 h3 x0 x1 x2 x3

    obtain ⟨x0, x1, x2, x3⟩ := HD2.out.cells
    go_wp2_with fail
    refine (KM.out w2).mono ?_
    rintro e w3 ⟨rfl, rfl⟩
    have HDD : Hid (DS q s k gp ge N m o P E (getA s a (4 + m)) w3.drew) := HD2.out.low ⟨rfl, rfl, rfl, Nat.le_refl _, fun _ _ => rfl⟩
    have HSC : Hid (∀ a' wx, Hid (DS q s k gp ge N m o P E a' wx) → wx.cell? ⟨k, 3, none⟩ = some (.slice (some ⟨ge, 0, none⟩) N N) ∧ wx.cell? ⟨ge, i, none⟩ = some (.int .i64 (E.getD i 0)) ∧ wx.frozen? ⟨ge, i, none⟩ = false) := fun a' wx hh => ⟨hh.out.cells.2.2.2, hh.out.be.cell i (by rw [hh.out.le]; exact hi), hh.out.be.frozen i⟩
    have HSK : Hid (∀ a' wx v, Hid (DS q s k gp ge N m o P E a' wx) → (wx.setCell ⟨ge, i, none⟩ v).cell? ⟨k, 3, none⟩ = some (.slice (some ⟨ge, 0, none⟩) N N)) := fun a' wx v hh => by
      rw [World.cell?_of_block (w := wx) (Below.heap_setCell wx _ _ k (fun e => HDi.out.ke e))]
      exact hh.out.cells.2.2.2
    have K5 : Hid (∀ wx, Hid (DS q s k gp ge N m o P E (getA s a (4 + m)) wx) → Calls Try.prog 63 #[.pointer (some ⟨q, 0, none⟩), .int .i64 5] wx fun en w' => en = .returned (.tuple #[.int .i64 (getV s (getA s a (4 + m)) 5), .bool false]) ∧ Hid (DS q s k gp ge N m o P E (getA s (getA s a (4 + m)) 5) w') ∧ Hid (Stays (only q) wx w')) := fun wx hh => (number_spec q s hs _ hle2 5 (by omega) (by omega) wx hh.out.rd).mono fun e w' hq => ⟨by rw [hq.1, HG2.out], hh.out.only HDi.out hq.2.1 (getA_le _ _ _ hle2) hq.2.2, hq.2.2⟩
    clear x0 x1 x2 x3 HD2 HD
    go_wp2_with fail
    go_region_held3 (fun wx => wx.cell? ⟨k, 3, none⟩ = some (.slice (some ⟨ge, 0, none⟩) N N)) (first | exact (HSC.out _ _ (by assumption)).1 | exact HSK.out _ _ _ (by assumption))
      ((go_at_call 63; refine (K5.out _ (by assumption)).mono ?_; rintro e w5 ⟨rfl, h5, h6⟩; obtain ⟨y3, yi, yf⟩ := HSC.out _ _ h5))
    all_goals go_wp2_with fail
    all_goals go_ret
    all_goals have HST : Stays (S3 q gp ge) wx (w5.setCell ⟨ge, i, none⟩ (.int .i64 (getV s (getA s a (4 + m)) 5))) := (((only_s3 HS2.out).drew).trans (only_s3 h6.out) (fun _ _ h => h)).setCell _ _ (Or.inl (Or.inr (Or.inr rfl)))
    all_goals exact ⟨rfl, HST⟩
  · have hb0 : (getE s a (4 + m) == 0) = false := by rw [beq_eq_false_iff_ne]; exact g0
    rw [hb0] at kn
    clear hn g0 hb0
    go_enter Try.func44, Try.ntmps44
    go_wp2_with fail
    refine (KW.out w).mono ?_
    rintro e wx ⟨rfl, rfl⟩
    go_wp2_with fail
    refine kn.mono ?_
    rintro e w2 ⟨rfl, h2, h3⟩
    have HS2 : Hid (Stays (only q) wx w2) := h3
    have HD2 : Hid (DS q s k gp ge N m o P E (getA s a (4 + m)) w2) := HD.out.only HDi.out h2 hle2 h3
    clear kn h2 h3 x0 x1 x2 x3

    go_wp2_with fail
    go_ret
    exact ⟨rfl, only_s3 HS2.out⟩
set_option maxRecDepth 20000 in
set_option maxHeartbeats 3200000 in
theorem head_yes (q : Nat) (s : ByteArray) (hs : s.size ≤ 1000000000000000000) (k gp ge N : Nat) (m o : Int) (P E : List Int) (a i : Nat) (m0 : 0 ≤ m) (m1 : m ≤ 1) (hi : i < N) (d : Dist q k gp ge) (w : World) (h : DS q s k gp ge N m o P E a w) (kk ee : Int) (a3 : Nat) (hz : P.getD i 0 = 0) (hn : rdHead s a m = some (kk, ee, a3)) :
    Calls Try.prog 44 #[.pointer (some ⟨q, 0, none⟩), .pointer (some ⟨k, 0, none⟩), .int .i64 (i : Int)] w fun en w' => en = .returned (.bool true) ∧ DS q s k gp ge N m o (P.set i kk) (E.set i ee) a3 w' ∧ Stays (S3 q gp ge) w w' := by
  have KW : Hid (∀ wx, Calls Try.prog 57 #[.int .i64 m] wx fun e w' => e = .returned (.int .i64 (4 + m)) ∧ w' = wx) := fun wx => pw_spec m m0 m1 wx
  have KM : Hid (∀ wx, Calls Try.prog 58 #[.int .i64 m] wx fun e w' => e = .returned (.int .i64 (15 + 16 * m)) ∧ w' = wx) := fun wx => mark_spec m m0 m1 wx
  have HD : Hid (DS q s k gp ge N m o P E a w) := h
  have HDi : Hid (Dist q k gp ge) := d
  have kn := number_spec q s hs a h.al (4 + m) (by omega) (by omega) w h.rd
  have hv := getV_m s a m m0 m1
  have hn32 := h.n32
  have hal := h.al
  obtain ⟨x0, x1, x2, x3⟩ := h.cells
  have hle2 := getA_le s a (4 + m) h.al
  clear h d
  have g0 : getE s a (4 + m) = 0 := by
    apply Classical.byContradiction
    intro hh
    unfold rdHead at hn
    rw [if_neg hh] at hn
    cases hn
  have hb0 : ((0 : Int) == 0) = true := rfl
  by_cases g1 : getV s a (4 + m) = 15 + 16 * m
  · have g2 : getE s (getA s a (4 + m)) 5 = 0 := by
      apply Classical.byContradiction
      intro hh
      unfold rdHead at hn
      rw [if_pos g0, if_pos g1, if_neg hh] at hn
      cases hn
    have HG2 : Hid ((getE s (getA s a (4 + m)) 5 == 0) = true) := by show _ = _; rw [g2]; rfl
    unfold rdHead at hn
    rw [if_pos g0, if_pos g1, if_pos g2] at hn
    cases hn
    have HPZ : Hid (P.set i 0 = P) := set_same P i hz
    rw [g0, g1] at kn
    clear g0 g1 g2 hv hz
    have hbm : ((15 + 16 * m) != (15 + 16 * m)) = false := by rw [bne_eq_false_iff_eq]
    go_enter Try.func44, Try.ntmps44
    go_wp2_with fail
    refine (KW.out w).mono ?_
    rintro e wx ⟨rfl, rfl⟩
    go_wp2_with fail
    refine kn.mono ?_
    rintro e w2 ⟨rfl, h2, h3⟩
    have HS2 : Hid (Stays (only q) wx w2) := h3
    have HD2 : Hid (DS q s k gp ge N m o P E (getA s a (4 + m)) w2) := HD.out.only HDi.out h2 hle2 h3
    clear kn h2 h3 x0 x1 x2 x3

    obtain ⟨x0, x1, x2, x3⟩ := HD2.out.cells
    go_wp2_with fail
    refine (KM.out w2).mono ?_
    rintro e w3 ⟨rfl, rfl⟩
    have HDD : Hid (DS q s k gp ge N m o P E (getA s a (4 + m)) w3.drew) := HD2.out.low ⟨rfl, rfl, rfl, Nat.le_refl _, fun _ _ => rfl⟩
    have HSC : Hid (∀ a' wx, Hid (DS q s k gp ge N m o P E a' wx) → wx.cell? ⟨k, 3, none⟩ = some (.slice (some ⟨ge, 0, none⟩) N N) ∧ wx.cell? ⟨ge, i, none⟩ = some (.int .i64 (E.getD i 0)) ∧ wx.frozen? ⟨ge, i, none⟩ = false) := fun a' wx hh => ⟨hh.out.cells.2.2.2, hh.out.be.cell i (by rw [hh.out.le]; exact hi), hh.out.be.frozen i⟩
    have HSK : Hid (∀ a' wx v, Hid (DS q s k gp ge N m o P E a' wx) → (wx.setCell ⟨ge, i, none⟩ v).cell? ⟨k, 3, none⟩ = some (.slice (some ⟨ge, 0, none⟩) N N)) := fun a' wx v hh => by
      rw [World.cell?_of_block (w := wx) (Below.heap_setCell wx _ _ k (fun e => HDi.out.ke e))]
      exact hh.out.cells.2.2.2
    have K5 : Hid (∀ wx, Hid (DS q s k gp ge N m o P E (getA s a (4 + m)) wx) → Calls Try.prog 63 #[.pointer (some ⟨q, 0, none⟩), .int .i64 5] wx fun en w' => en = .returned (.tuple #[.int .i64 (getV s (getA s a (4 + m)) 5), .bool true]) ∧ Hid (DS q s k gp ge N m o P E (getA s (getA s a (4 + m)) 5) w') ∧ Hid (Stays (only q) wx w')) := fun wx hh => (number_spec q s hs _ hle2 5 (by omega) (by omega) wx hh.out.rd).mono fun e w' hq => ⟨by rw [hq.1, HG2.out], hh.out.only HDi.out hq.2.1 (getA_le _ _ _ hle2) hq.2.2, hq.2.2⟩
    clear x0 x1 x2 x3 HD2 HD
    go_wp2_with fail
    go_region_held3 (fun wx => wx.cell? ⟨k, 3, none⟩ = some (.slice (some ⟨ge, 0, none⟩) N N)) (first | exact (HSC.out _ _ (by assumption)).1 | exact HSK.out _ _ _ (by assumption))
      ((go_at_call 63; refine (K5.out _ (by assumption)).mono ?_; rintro e w5 ⟨rfl, h5, h6⟩; obtain ⟨y3, yi, yf⟩ := HSC.out _ _ h5))
    all_goals go_wp2_with fail
    all_goals go_ret
    all_goals have HST : Stays (S3 q gp ge) wx (w5.setCell ⟨ge, i, none⟩ (.int .i64 (getV s (getA s a (4 + m)) 5))) := (((only_s3 HS2.out).drew).trans (only_s3 h6.out) (fun _ _ h => h)).setCell _ _ (Or.inl (Or.inr (Or.inr rfl)))
    all_goals exact ⟨rfl, by rw [HPZ.out]; exact h5.out.setE HDi.out i _, HST⟩
  · unfold rdHead at hn
    rw [if_pos g0, if_neg g1] at hn
    cases hn
    rw [g0] at kn
    have hbm : (getV s a (4 + m) != (15 + 16 * m)) = true := by rw [bne_iff_ne]; exact g1
    clear g0 g1 hz
    generalize getV s a (4 + m) = v at *
    go_enter Try.func44, Try.ntmps44
    go_wp2_with fail
    refine (KW.out w).mono ?_
    rintro e wx ⟨rfl, rfl⟩
    go_wp2_with fail
    refine kn.mono ?_
    rintro e w2 ⟨rfl, h2, h3⟩
    have HS2 : Hid (Stays (only q) wx w2) := h3
    have HD2 : Hid (DS q s k gp ge N m o P E (getA s a (4 + m)) w2) := HD.out.only HDi.out h2 hle2 h3
    clear kn h2 h3 x0 x1 x2 x3

    obtain ⟨x0, x1, x2, x3⟩ := HD2.out.cells
    go_wp2_with fail
    refine (KM.out w2).mono ?_
    rintro e w3 ⟨rfl, rfl⟩
    have yp := HD2.out.bp.cell i (by rw [HD2.out.lp]; exact hi)
    have ye := HD2.out.be.cell i (by rw [HD2.out.le]; exact hi)
    have fp := HD2.out.bp.frozen i
    have fe := HD2.out.be.frozen i
    have hpe := HDi.out.pe
    have hep : ge ≠ gp := fun e => hpe e.symm
    have HD3 : Hid (DS q s k gp ge N m o P E (getA s a (4 + m)) w3.drew) := HD2.out.low ⟨rfl, rfl, rfl, Nat.le_refl _, fun _ _ => rfl⟩
    go_wp2_with fail
    go_region
    all_goals go_wp2_with fail
    all_goals go_ret
    all_goals refine ⟨rfl, ?_, ?_⟩
    all_goals first
      | exact (HD3.out.setP HDi.out i v).setE HDi.out i (-1)
      | exact (HD3.out.setE HDi.out i (-1)).setP HDi.out i v
      | exact (((only_s3 (gp := gp) (ge := ge) HS2.out).setCell ⟨gp, i, none⟩ (.int .i64 v) (Or.inl (Or.inr (Or.inl rfl)))).setCell ⟨ge, i, none⟩ (.int .i64 (-1)) (Or.inl (Or.inr (Or.inr rfl)))).drew
      | exact (((only_s3 (gp := gp) (ge := ge) HS2.out).setCell ⟨ge, i, none⟩ (.int .i64 (-1)) (Or.inl (Or.inr (Or.inr rfl)))).setCell ⟨gp, i, none⟩ (.int .i64 v) (Or.inl (Or.inr (Or.inl rfl)))).drew

end Go.Proofs.Ytdlakbgcflekkaa
