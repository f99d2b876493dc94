/- Own text: the walk of the program's readPart. -/
import Derived.Test.YtdlakbgcflekkaaQ8rd
namespace Go.Proofs.Ytdlakbgcflekkaa
open Go.RowKit
set_option linter.unusedSimpArgs false
set_option linter.unusedVariables false

def RPost (R : Option (List Int × Nat)) (no : Prop) (yes : List Int → Nat → Prop) : Prop := match R with
  | none => no
  | some (X, a2) => yes X a2
theorem RPost.none_ {R : Option (List Int × Nat)} {no : Prop} {yes : List Int → Nat → Prop} (h : R = none) (hn : no) : RPost R no yes := by rw [h]; exact hn
theorem RPost.some_ {R : Option (List Int × Nat)} {no : Prop} {yes : List Int → Nat → Prop} {X : List Int} {a : Nat} (h : R = some (X, a)) (hn : yes X a) : RPost R no yes := by rw [h]; exact hn
def S2 (q gl : Nat) (b : Nat) : Prop := b = q ∨ b = gl
theorem set_mid (A X C : List Int) (z : Nat) (v : Int) (hz : 0 < z) : (A ++ X ++ List.replicate z 0 ++ C).set (A.length + X.length) v = A ++ (X ++ [v]) ++ List.replicate (z - 1) 0 ++ C := by
  obtain ⟨z, rfl⟩ : ∃ y, z = y + 1 := ⟨z - 1, by omega⟩
  rw [List.append_assoc (A ++ X), List.set_append_right _ _ (by rw [List.length_append]; omega)]
  rw [List.length_append, Nat.sub_self, List.replicate_succ, List.cons_append, List.set_cons_zero]
  simp
section
variable {q : Nat} {s : ByteArray} {k gp ge N : Nat} {m o : Int} {P E : List Int} {a a' : Nat} {w w' : World}
theorem DS.other (h : DS q s k gp ge N m o P E a w) (p : Addr) (u : Value) (h1 : p.block ≠ q) (h2 : p.block ≠ k) (h3 : p.block ≠ gp) (h4 : p.block ≠ ge) : DS q s k gp ge N m o P E a (w.setCell p u) :=
  ⟨h.rd.other _ _ h1, by rw [Below.heap_setCell w _ _ k (fun e => h2 e.symm)]; exact h.bk, h.bp.other _ _ h3, h.be.other _ _ h4, h.lp, h.le, h.n32, h.al⟩
end
set_option maxRecDepth 20000 in
set_option maxHeartbeats 3200000 in
theorem rpart_spec (q : Nat) (s : ByteArray) (hs : s.size ≤ 1000000000000000000) (k gp ge gl N : Nat) (m o : Int) (P E : List Int) (a i : Nat) (hi : i < N) (d : Dist q k gp ge) (g1 : gl ≠ q) (g2 : gl ≠ k) (g3 : gl ≠ gp) (g4 : gl ≠ ge) (n : Nat) (hn : n ≤ 65535) (A C : List Int) (xo : Option Addr) (cap : Nat) (hxo : 0 < n → xo = some ⟨gl, A.length, none⟩) (hm : mayOk m (P.getD i 0) (E.getD i 0)) (hm1 : m ≤ 1) (w : World) (h : DS q s k gp ge N m o P E a w) (hl : IntsBlk w gl (A ++ List.replicate n 0 ++ C)) :
    Calls Try.prog 45 #[.pointer (some ⟨q, 0, none⟩), .agg #[.int .i64 m, .int .i64 o, .slice (some ⟨gp, 0, none⟩) N N, .slice (some ⟨ge, 0, none⟩) N N], .int .i64 (i : Int), .slice xo n cap] w fun en w' => RPost (rdAll s (P.getD i 0) (E.getD i 0) n a) (en = .returned (.bool false) ∧ Stays (S2 q gl) w w') (fun X a2 => en = .returned (.bool true) ∧ DS q s k gp ge N m o P E a2 w' ∧ IntsBlk w' gl (A ++ X ++ C) ∧ Stays (S2 q gl) w w') := by
  have hiP : i < P.length := by rw [h.lp]; exact hi
  have hiE : i < E.length := by rw [h.le]; exact hi
  have hn32 := h.n32
  have hkm : 0 ≤ P.getD i 0 ∧ P.getD i 0 ≤ 30 ∧ -1 ≤ E.getD i 0 ∧ E.getD i 0 ≤ 31 := by unfold mayOk at hm; omega
  have HB : Hid (Below w.heap.size w (w.alloc (.cells #[.int .i64 m, .int .i64 o, .slice (some ⟨gp, 0, none⟩) N N, .slice (some ⟨ge, 0, none⟩) N N] 24))) := (Below.refl _ _).alloc (Nat.le_refl _) _
  have HDa : Hid (DS q s k gp ge N m o P E a (w.alloc (.cells #[.int .i64 m, .int .i64 o, .slice (some ⟨gp, 0, none⟩) N N, .slice (some ⟨ge, 0, none⟩) N N] 24))) := h.low HB.out
  have HLa : Hid (IntsBlk (w.alloc (.cells #[.int .i64 m, .int .i64 o, .slice (some ⟨gp, 0, none⟩) N N, .slice (some ⟨ge, 0, none⟩) N N] 24)) gl (A ++ List.replicate n 0 ++ C)) := hl.below HB.out
  have HDi : Hid (Dist q k gp ge) := d
  have hbx : (w.alloc (.cells #[.int .i64 m, .int .i64 o, .slice (some ⟨gp, 0, none⟩) N N, .slice (some ⟨ge, 0, none⟩) N N] 24)).heap[w.heap.size]? = some (.cells #[.int .i64 m, .int .i64 o, .slice (some ⟨gp, 0, none⟩) N N, .slice (some ⟨ge, 0, none⟩) N N] 24 (0, 0)) := heap_alloc_new _ _
  have x2 : (w.alloc (.cells #[.int .i64 m, .int .i64 o, .slice (some ⟨gp, 0, none⟩) N N, .slice (some ⟨ge, 0, none⟩) N N] 24)).cell? ⟨w.heap.size, 2, none⟩ = some (.slice (some ⟨gp, 0, none⟩) N N) := by rw [cell_of_row _ _ _ _ _ _ hbx]; rfl
  have x3 : (w.alloc (.cells #[.int .i64 m, .int .i64 o, .slice (some ⟨gp, 0, none⟩) N N, .slice (some ⟨ge, 0, none⟩) N N] 24)).cell? ⟨w.heap.size, 3, none⟩ = some (.slice (some ⟨ge, 0, none⟩) N N) := by rw [cell_of_row _ _ _ _ _ _ hbx]; rfl
  have yp := HDa.out.bp.cell i hiP
  have ye := HDa.out.be.cell i hiE
  have HXO : Hid (0 < n → xo = some ⟨gl, A.length, none⟩) := hxo
  clear h hl hbx hxo hm
  generalize P.getD i 0 = kk at *
  generalize E.getD i 0 = ee at *
  obtain ⟨k0, k1, e0, e1⟩ := hkm
  by_cases hz : ee = 0
  · subst hz
    have HZR : Hid (rdAll s kk 0 n a = some (List.replicate n 0, a)) := rdAll_zero n a
    go_enter Try.func45, Try.ntmps45
    go_wp2_with fail
    generalize hwa : w.alloc _ = wa at *
    clear hwa
    go_quiet (fail)
    go_wp2_with fail
    go_ret
    exact RPost.some_ HZR.out ⟨rfl, HDa.out.low (below_drewN _ _), HLa.out.below (below_drewN _ _), (Stays.of_below HB.out _).drewN _⟩
  · have hbz : (ee == 0) = false := by rw [beq_eq_false_iff_ne]; exact hz
    have HZ : Hid (¬ ee = 0) := hz
    clear hz
    go_enter Try.func45, Try.ntmps45
    go_wp2_with fail
    generalize hwa : w.alloc _ = wa at *
    clear hwa
    go_quiet (fail)
    clear x2 x3 yp ye
    go_wp2_with fail
    have HDb : Hid (DS q s k gp ge N m o P E a (wa.drewN nq)) := HDa.out.low (below_drewN _ _)
    have HLb : Hid (IntsBlk (wa.drewN nq) gl (A ++ List.replicate n 0 ++ C)) := HLa.out.below (below_drewN _ _)
    have HSb : Hid (Stays (S2 q gl) w (wa.drewN nq)) := (Stays.of_below HB.out _).drewN _
    clear HDa HLa HB
    generalize wa.drewN nq = wb at *
    go_loopw [11, 12, 13, 28] (fun s11 s12 s13 s28 wr => ∃ (j : Nat) (X : List Int) (aj : Nat), j ≤ n ∧ s28 = .int .i64 (j : Int) ∧ rdAll s kk ee j a = some (X, aj) ∧ DS q s k gp ge N m o P E aj wr ∧ IntsBlk wr gl (A ++ X ++ List.replicate (n - j) 0 ++ C) ∧ Stays (S2 q gl) w wr) (fun _ _ _ s28 _ => n - (intOf s28).toNat)
    case atStart => exact ⟨0, [], a, Nat.zero_le _, rfl, rfl, HDb.out, by rw [List.append_nil]; exact HLb.out, HSb.out⟩
    case round =>
      clear HDb HLb HSb
      obtain ⟨j, X, aj, hj, rfl, hrd, hds, hli, hst⟩ := hrel
      have HRD : Hid (rdAll s kk ee j a = some (X, aj)) := hrd
      have HDS : Hid (DS q s k gp ge N m o P E aj wr) := hds
      have HLI : Hid (IntsBlk wr gl (A ++ X ++ List.replicate (n - j) 0 ++ C)) := hli
      have HST : Hid (Stays (S2 q gl) w wr) := hst
      have hxl : X.length = j := rdAll_len hrd
      clear hrd hds hli hst
      by_cases hlt : j < n
      · have exo := HXO.out (by omega)
        subst exo
        have ko := readOne_spec q s hs aj HDS.out.al kk ee HZ.out wr HDS.out.rd
        by_cases hge : rdE s aj kk ee = 0
        · have HNX : Hid (rdAll s kk ee (j + 1) a = some (X ++ [rdV s aj kk ee], rdA s aj kk ee)) := rdAll_some HRD.out hge
          have hvb := rd_bound s aj kk ee (by omega) (by omega)
          rw [hge] at ko
          clear hge
          have hAl := rdA_le s aj kk ee HDS.out.al
          generalize rdV s aj kk ee = v at *
          generalize rdA s aj kk ee = a' at *
          go_wp2_with fail
          refine ko.mono ?_
          rintro e w3 ⟨rfl, h3, h4⟩
          have HD3 : Hid (DS q s k gp ge N m o P E a' w3) := HDS.out.only HDi.out h3 hAl h4
          have HL3 : Hid (IntsBlk w3 gl (A ++ X ++ List.replicate (n - j) 0 ++ C)) := HLI.out.stays h4 (fun e => g1 e)
          have HS3 : Hid (Stays (S2 q gl) w w3) := HST.out.trans h4 (fun _ _ h => Or.inl h)
          clear ko h3 h4
          have yc := HL3.out.cell (A.length + j) (by simp only [List.length_append, List.length_replicate]; omega)
          have yf := HL3.out.frozen (A.length + j)
          generalize (A ++ X ++ List.replicate (n - j) 0 ++ C).getD (A.length + j) 0 = vv at yc
          go_wp2_with fail
          go_roundw
          case rel =>
            refine ⟨j + 1, X ++ [v], a', by omega, by go_num, HNX.out, HD3.out.other _ _ g1 g2 g3 g4, ?_, HS3.out.setCell _ _ (Or.inl (Or.inr rfl))⟩
            have hh := HL3.out.set (A.length + j) v
            rw [show A.length + j = A.length + X.length by omega, set_mid A X C (n - j) v (by omega)] at hh
            rw [show n - (j + 1) = n - j - 1 by omega]
            rw [show A.length + j = A.length + X.length by omega]
            exact hh
          case measure => simp [intOf]; omega
        · have HNO : Hid (rdAll s kk ee n a = none) := rdAll_none n (rdAll_stop HRD.out hge) (by omega)
          have hbg : (rdE s aj kk ee != 0) = true := by rw [bne_iff_ne]; exact hge
          clear hge
          generalize rdV s aj kk ee = v at *
          generalize rdE s aj kk ee = ev at *
          go_wp2_with fail
          refine ko.mono ?_
          rintro e w3 ⟨rfl, h3, h4⟩
          have HS3 : Hid (Stays (S2 q gl) w w3) := HST.out.trans h4 (fun _ _ h => Or.inl h)
          clear ko h3 h4
          go_wp2_with fail
          go_ret
          exact RPost.none_ HNO.out ⟨rfl, HS3.out⟩
      · have hjn : j = n := by omega
        subst hjn
        have HLE : Hid (A ++ X ++ List.replicate (j - j) 0 ++ C = A ++ X ++ C) := by show _ = _; rw [Nat.sub_self, List.replicate_zero, List.append_nil]
        go_wp2_with fail
        go_ret
        exact RPost.some_ HRD.out ⟨rfl, HDS.out, by have := HLI.out; rw [HLE.out] at this; exact this, HST.out⟩

end Go.Proofs.Ytdlakbgcflekkaa
