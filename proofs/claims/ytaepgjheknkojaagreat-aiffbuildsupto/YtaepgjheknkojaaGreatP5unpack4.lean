/- Own text: the walk of the document's Unpack, its loop. -/
import Derived.Test.YtaepgjheknkojaaGreatG40x
namespace Go.Proofs.YtaepgjheknkojaaGreat
open Go.RowKit
set_option linter.unusedSimpArgs false
set_option linter.unusedVariables false

section
variable {w0 w w1 : World} {big uns : Bool} {rate ch wd : Int} {C : Nat} {vs : List Value} {xs : List (List Int)}
theorem Up.qc (h : Up w0 big uns rate ch wd C vs xs w) (j : Nat) (v : Value) (hv : (#[.int .i64 rate, .int .i64 ch, .int .i64 wd, .slice (some ⟨w0.heap.size + 2, 0, none⟩) C C] : Array Value)[j]? = some v) : w.cell? ⟨w0.heap.size + 1 + 1 + 1, j, none⟩ = some v := by rw [cell_of_row _ _ _ _ _ _ h.q]; exact hv
theorem Up.r0 (h : Up w0 big uns rate ch wd C vs xs w) : w.cell? ⟨w0.heap.size + 1, 0, none⟩ = some (.int .i64 0) := by rw [cell_of_row _ _ _ _ _ _ h.res]; rfl
theorem Up.r1 (h : Up w0 big uns rate ch wd C vs xs w) : w.cell? ⟨w0.heap.size + 1, 1, none⟩ = some (.int .i64 0) := by rw [cell_of_row _ _ _ _ _ _ h.res]; rfl
theorem Up.r2 (h : Up w0 big uns rate ch wd C vs xs w) : w.cell? ⟨w0.heap.size + 1, 2, none⟩ = some (.int .i64 0) := by rw [cell_of_row _ _ _ _ _ _ h.res]; rfl
theorem Up.r3 (h : Up w0 big uns rate ch wd C vs xs w) : w.cell? ⟨w0.heap.size + 1, 3, none⟩ = some (.slice none 0 0) := by rw [cell_of_row _ _ _ _ _ _ h.res]; rfl
theorem Up.z (h : Up w0 big uns rate ch wd C vs xs w) (j : Nat) : w.frozen? ⟨w0.heap.size + 1, j, none⟩ = false := by
  have hrs := h.res
  simp [World.frozen?, hrs]
theorem Up.kept (h : Up w0 big uns rate ch wd C vs xs w) (k : Nat) (hk : k < C) (hg : w.grownBy w1 (vs.getD k noS).ownBlock) :
    w1.cell? ⟨w0.heap.size + 1 + 1 + 1, 3, none⟩ = some (.slice (some ⟨w0.heap.size + 1 + 1, 0, none⟩) C C) ∧ w1.cell? ⟨w0.heap.size + 1 + 1, k, none⟩ = some (vs.getD k noS) ∧ w1.frozen? ⟨w0.heap.size + 1 + 1, k, none⟩ = false := by
  have hl := h.len
  have hsz := h.size
  obtain ⟨c1, c2⟩ := h.row k hk
  have n3 : some (w0.heap.size + 3) ≠ (vs.getD k noS).ownBlock := fun q => h.far k (by omega) q.symm
  have n2 : some (w0.heap.size + 2) ≠ (vs.getD k noS).ownBlock := fun q => by
    rcases h.mat.aside k (by omega) with q2 | q2
    · rw [q2] at q
      cases q
    · exact q2 (by rw [← q]; rfl)
  have b3 : w1.heap[w0.heap.size + 3]? = w.heap[w0.heap.size + 3]? := hg.block _ (by omega) n3
  have b2 : w1.heap[w0.heap.size + 2]? = w.heap[w0.heap.size + 2]? := hg.block _ (by omega) n2
  refine ⟨?_, ?_, ?_⟩
  · have := h.q
    rw [← b3] at this
    rw [cell_of_row _ _ _ _ _ _ this]
    rfl
  · have e : w1.cell? ⟨w0.heap.size + 2, k, none⟩ = w.cell? ⟨w0.heap.size + 2, k, none⟩ := by simp [World.cell?, b2]
    exact e.trans c1
  · have e : w1.frozen? ⟨w0.heap.size + 2, k, none⟩ = w.frozen? ⟨w0.heap.size + 2, k, none⟩ := by simp [World.frozen?, b2]
    exact e.trans c2
end
theorem upL_len (s : ByteArray) (wd : Int) (big uns : Bool) (ch : Nat) : ∀ i k, ((upL s wd big uns ch i).getD k []).length ≤ i
  | 0, k => by
    have e : (upL s wd big uns ch 0).getD k [] = [] := by
      simp only [upL, List.getD_eq_getElem?_getD, List.getElem?_replicate]
      split <;> rfl
    rw [e]
    exact Nat.le_refl _
  | i + 1, k => by
    have hl := upL_length s wd big uns ch i
    have ih := upL_len s wd big uns ch i
    rw [upL]
    by_cases e : i % ch = k
    · by_cases hk : k < ch
      · subst e
        rw [getD_set_eq _ _ _ _ (by omega), List.length_append, List.length_singleton]
        have := ih (i % ch)
        omega
      · rw [List.getD_eq_getElem?_getD, List.getElem?_eq_none (by rw [List.length_set]; omega)]
        exact Nat.zero_le _
    · rw [getD_set_ne _ _ _ _ _ e]
      have := ih k
      omega
theorem upL_good (s : ByteArray) (wd : Int) (big uns : Bool) (ch : Nat) (i : Nat) (hs : ∀ j, j < i → sampB (numI s wd big uns j) wd = true) (h4 : 4 ≤ wd) (h32 : wd ≤ 32) (k : Nat) (hk : k < ch) : ((upL s wd big uns ch i).getD k []).length ≤ i ∧ ∀ n ∈ (upL s wd big uns ch i).getD k [], -9223372036854775808 ≤ n ∧ n ≤ 9223372036854775807 := by
  refine ⟨upL_len s wd big uns ch i k, ?_⟩
  induction i generalizing k with
  | zero =>
    have e : (upL s wd big uns ch 0).getD k [] = [] := by simp [upL, List.getD_eq_getElem?_getD, hk]
    rw [e]
    exact fun n hn => by cases hn
  | succ i ih =>
    have hl := upL_length s wd big uns ch i
    rw [upL]
    by_cases e : i % ch = k
    · subst e
      rw [getD_set_eq _ _ _ _ (by omega)]
      intro n hn
      rcases List.mem_append.1 hn with hn | hn
      · exact ih (fun j hj => hs j (by omega)) (i % ch) hk n hn
      · rw [List.mem_singleton] at hn
        rw [hn]
        have h1 := of_decide_eq_true (hs i (by omega))
        obtain ⟨p1, p2⟩ := pow31 (wd - 1).toNat (by omega)
        omega
    · rw [getD_set_ne _ _ _ _ _ e]
      exact ih (fun j hj => hs j (by omega)) k hk

set_option maxRecDepth 20000 in
set_option maxHeartbeats 6400000 in
theorem runpack_true_true (s : ByteArray) (rate wd : Int) (C : Nat) (w : World) (hs : s.size ≤ 1000000000000000000) (hh : uheadB rate (C : Int) wd = true) (hm : s.size % (nby wd * C) = 0) (h5 : s.size / (nby wd * C) ≤ 1048576) :
    Calls Tryz.prog 21 #[.string s, .int .i64 rate, .int .i64 (C : Int), .int .i64 wd, .agg #[.bool true, .bool true]] w fun e w' => Gives w (unpP s rate (C : Int) wd true true) (unpE s rate (C : Int) wd true true) e w' := by
  have HNO : Hid (∀ i, i < s.size / nby wd → sampB (numI s wd true true i) wd = false → unpE s rate (C : Int) wd true true = 2) := fun i hi hb => by
    unfold unpE
    rw [hh, if_pos rfl, Int.toNat_natCast, if_pos hm, if_neg (by omega), if_neg (fun q => by rw [q i hi] at hb; cases hb)]
  have HYS : Hid ((∀ i, i < s.size / nby wd → sampB (numI s wd true true i) wd = true) → unpE s rate (C : Int) wd true true = 0 ∧ unpP s rate (C : Int) wd true true = ⟨rate, (C : Int), wd, upL s wd true true C (s.size / nby wd)⟩) := fun q => by
    have e : unpE s rate (C : Int) wd true true = 0 := by
      unfold unpE
      rw [hh, if_pos rfl, Int.toNat_natCast, if_pos hm, if_neg (by omega), if_pos q]
    refine ⟨e, ?_⟩
    unfold unpP
    rw [if_pos e, Int.toNat_natCast]
  have HU0 : Hid (Up w true true rate (C : Int) wd C (List.replicate C noS) (List.replicate C []) _) := Up.new w true true rate (C : Int) wd C (by have := uhead_parts hh; omega)
  obtain ⟨r1, r2, c1, c2, w1, w2⟩ := uhead_parts hh
  obtain ⟨n1, n2, n3, n4⟩ := nby_range wd w1 w2
  have hw : (wd + 7) / 8 = (nby wd : Int) := n4.symm
  have hmk := make_rows C (by omega)
  obtain ⟨hp1, hp2⟩ := pow31 (wd - 1).toNat (by omega)
  have hkw : (wd - 1).toNat = wd.toNat - 1 := by omega
  rw [hkw] at hp1 hp2
  obtain ⟨H, hH⟩ : ∃ H : Int, (2 : Int) ^ (wd.toNat - 1) = H := ⟨_, rfl⟩
  rw [hH] at hp1 hp2
  have HKE : Hid (s.size / nby wd ≤ 8388608) := by
    show _ ≤ _
    have e : s.size = nby wd * C * (s.size / (nby wd * C)) := by
      have := Nat.div_add_mod s.size (nby wd * C)
      omega
    have e2 : s.size / nby wd = C * (s.size / (nby wd * C)) := by
      have : s.size = nby wd * (C * (s.size / (nby wd * C))) := by rw [← Nat.mul_assoc]; exact e
      exact Nat.div_eq_of_eq_mul_right (by omega) this
    rw [e2]
    exact Nat.le_trans (Nat.mul_le_mul (by omega : C ≤ 8) h5) (by decide)
  have hmul : (nby wd : Int) * (C : Int) = ((nby wd * C : Nat) : Int) := by simp
  have hq1 : 1 ≤ nby wd * C := Nat.mul_le_mul n1 (by omega : 1 ≤ C)
  have hq2 : nby wd * C ≤ 4 * 8 := Nat.mul_le_mul n2 (by omega : C ≤ 8)
  have hb : ((s.size : Int) % ((nby wd * C : Nat) : Int) == 0) = true := by
    rw [beq_iff_eq]
    omega
  have hqd : (s.size : Int) / ((nby wd * C : Nat) : Int) = ((s.size / (nby wd * C) : Nat) : Int) := by simp
  have hkd : (s.size : Int) / (nby wd : Int) = ((s.size / nby wd : Nat) : Int) := by simp
  have HKM : Hid (s.size / nby wd * nby wd ≤ s.size) := Nat.div_mul_le_self _ _
  obtain ⟨i3, h30, h31, h32, h33⟩ := info_parts info3'
  have H3 : Hid (Tryz.prog.info? 3 = some i3 ∧ i3.zero = some (.int .i64 0) ∧ i3.size = 1 ∧ i3.bytes = 8) := ⟨h30, h31, h32, h33⟩
  clear hh h30 h31 h32 h33 n4
  generalize nby wd * C = M at *
  generalize s.size / M = Q at *
  generalize hK : s.size / nby wd = K at *
  have hKb : K ≤ 8388608 := HKE.out
  clear hK HKE
  go_enter Tryz.func21, Tryz.ntmps21
  go_wp2_with fail
  generalize hwa : World.alloc _ _ = wa
  have HA : Hid (Up w true true rate (C : Int) wd C (List.replicate C noS) (List.replicate C []) wa) := by
    rw [← hwa]
    exact HU0.out
  clear hwa HU0
  rw [hw]
  generalize Value.bool ((s.size : Int) % (M : Int) != 0) = v49
  generalize Value.int IntKind.i64 ((s.size : Int) % (M : Int)) = v48
  go_loopw [14] (fun t wr => ∃ i : Nat, i ≤ K ∧ t = .int .i64 (i : Int) ∧ ∃ vs, Up w true true rate (C : Int) wd C vs (upL s wd true true C i) wr ∧ ∀ j, j < i → sampB (numI s wd true true j) wd = true) (fun t _ => K - (intOf t).toNat)
  case atStart => exact ⟨0, Nat.zero_le _, rfl, List.replicate C noS, HA.out, fun j hj => absurd hj (Nat.not_lt_zero _)⟩
  case round =>
    clear HA
    obtain ⟨i, hi, rfl, vs, hup, hall⟩ := hrel
    have HB : Hid (Up w true true rate (C : Int) wd C vs (upL s wd true true C i) wr) := hup
    have HALL : Hid (∀ j, j < i → sampB (numI s wd true true j) wd = true) := hall
    clear hup hall
    by_cases hlt : i < K
    · have hle : i * nby wd + nby wd ≤ s.size := by
        have h1 : (i + 1) * nby wd ≤ K * nby wd := Nat.mul_le_mul_right _ (by omega)
        rw [Nat.succ_mul] at h1
        have := HKM.out
        omega
      have hml := mOf_lt s (nby wd) true i hle
      have hm4 : mOf s (nby wd) true i ≤ 4294967295 := by
        have q1 : 256 ^ nby wd ≤ 256 ^ 4 := Nat.pow_le_pow_right (by decide) n2
        have q3 : (256 : Nat) ^ 4 = 4294967296 := by decide
        omega
      have hsz := bytesOf_ext s (i * nby wd) (i * nby wd + nby wd) (by omega) hle
      have kle := reffromLe_spec (s.extract (i * nby wd) (i * nby wd + nby wd)) (by omega)
      have kbe := reffromBe_spec (s.extract (i * nby wd) (i * nby wd + nby wd)) (by omega)
      have hmv : fromBe (bytesOf (s.extract (i * nby wd) (i * nby wd + nby wd))) = (mOf s (nby wd) true i : Int) := by
        have e : mOf s (nby wd) true i = val (bytesOf (s.extract (i * nby wd) (i * nby wd + nby wd))) := rfl
        rw [e] at hm4 ⊢
        refine fromBe_of _ ?_ (by omega)
        
        rw [bytesOf_length]
        omega
      rw [hmv] at kbe
      generalize fromBe (bytesOf (s.extract (i * nby wd) (i * nby wd + nby wd))).reverse = nl at kle
      obtain ⟨m, hmm⟩ : ∃ m : Nat, mOf s (nby wd) true i = m := ⟨_, rfl⟩
      have HX : Hid (numI s wd true true i = decN wd true m) := by
        show _ = _
        rw [← hmm]
        rfl
      rw [hmm] at hm4 kbe
      obtain ⟨xs, hxs⟩ : ∃ xs, upL s wd true true C i = xs := ⟨_, rfl⟩
      obtain ⟨k, hk⟩ : ∃ k, i % C = k := ⟨_, rfl⟩
      obtain ⟨lk, hlk⟩ : ∃ lk, xs.getD k [] = lk := ⟨_, rfl⟩
      obtain ⟨x, hx⟩ : ∃ x, numI s wd true true i = x := ⟨_, rfl⟩
      have HXS : Hid (upL s wd true true C (i + 1) = xs.set k (lk ++ [x])) := by
        show _ = _
        rw [← hlk, ← hk, ← hxs, ← hx]
        rfl
      have HLKE : Hid (xs.getD k [] = lk) := hlk
      have HB2 : Hid (Up w true true rate (C : Int) wd C vs xs wr) := by
        have := HB.out
        rwa [hxs] at this
      have HNI : Hid (sampB x wd = false → unpE s rate (C : Int) wd true true = 2) := by
        have := HNO.out i hlt
        rwa [hx] at this
      have HYES : Hid (sampB x wd = true → ∀ j, j < i + 1 → sampB (numI s wd true true j) wd = true) := fun hb j hj => by
        by_cases e : j = i
        · rw [e, hx]
          exact hb
        · exact HALL.out j (by omega)
      have HLK : Hid (lk.length ≤ 8388608) := by
        have h1 := upL_len s wd true true C i (i % C)
        rw [hxs, hk, hlk] at h1
        show _ ≤ _
        omega
      have hkC : k < C := by rw [← hk]; exact Nat.mod_lt _ (by omega)
      have hrm1 : Int.tmod (i : Int) (C : Int) = (k : Int) := by
        rw [Int.tmod_eq_emod_of_nonneg (by omega), ← hk]
        simp
      have hrm2 : (i : Int) % (C : Int) = (k : Int) := by
        rw [← hk]
        simp
      have ha : (i : Int) * (nby wd : Int) = ((i * nby wd : Nat) : Int) := by simp
      have HX2 : Hid (x = decN wd true m) := by
        have := HX.out
        rwa [hx] at this
      have hC0 : ¬ C = 0 := by omega
      have l0 := HB2.out.l0
      have l1 := HB2.out.l1
      clear hmv hml hmm HALL HX hx hlk hk hxs HB HNO HYS hmk hqd hb hmul
      have hsl := slice_run s (i * nby wd) (i * nby wd + nby wd) (by omega) hle
      have hab : ((i * nby wd : Nat) : Int) + (nby wd : Int) = ((i * nby wd + nby wd : Nat) : Int) := by simp
      generalize i * nby wd + nby wd = b at *
      generalize hA : i * nby wd = a at *
      have ha63 : a ≤ b := by omega
      generalize hT : s.extract a b = tx at *
      clear hA hT
      have hadd : (m : Int) - H = x := by
        have h := HX2.out
        unfold decN at h
        rw [if_pos rfl, hH] at h
        exact h.symm
      clear HX2
      go_wp2_with fail
      refine (kle wr).mono ?_
      rintro e w5 ⟨rfl, hB5⟩
      have P5 : Hid (Up w true true rate (C : Int) wd C vs xs w5) := HB2.out.next hB5
      clear hB5
      have m0 := P5.out.l0
      have m1 := P5.out.l1
      go_wp2_with fail
      refine (kbe w5).mono ?_
      rintro e w6 ⟨rfl, q6⟩
      subst q6
      go_wp2_with fail
      refine (rsample_spec x wd w1 w2 _).mono ?_
      rintro e w7 ⟨rfl, q7⟩
      have P7 : Hid (Up w true true rate (C : Int) wd C vs xs w7) := by
        rw [q7]
        exact P5.out
      clear q7 P5
      cases hsb : sampB x wd
      · have HN : Hid (unpE s rate (C : Int) wd true true = 2) := HNI.out hsb
        have HP : Hid (unpP s rate (C : Int) wd true true = noP) := by
          show _ = _
          unfold unpP
          rw [HN.out]
          rfl
        have r0 := P7.out.r0
        have r1 := P7.out.r1
        have r2 := P7.out.r2
        have r3 := P7.out.r3
        have z0 := P7.out.z 0
        have z1 := P7.out.z 1
        have z2 := P7.out.z 2
        have z3 := P7.out.z 3
        have HU : Hid (Un w true true w7) := P7.out.un
        clear P7
        go_wp2_with fail
        generalize hwf : ((((w7).setCell ⟨w.heap.size + 1, 0, none⟩ (.int .i64 0)).setCell ⟨w.heap.size + 1, 1, none⟩ (.int .i64 0)).setCell ⟨w.heap.size + 1, 2, none⟩ (.int .i64 0)).setCell ⟨w.heap.size + 1, 3, none⟩ (.slice none 0 0) = wf
        have hrow : wf.heap[w.heap.size + 1]? = some (.cells zeroP 24 (0, 0)) := by
          rw [← hwf, block_set _ _ _ _ _ _ (block_set _ _ _ _ _ _ (block_set _ _ _ _ _ _ (block_set _ _ _ _ _ _ HU.out.res)))]
          rfl
        have hbel : Below w.heap.size w wf := by
          rw [← hwf]
          exact (((HU.out.below.setCell (by simp) _).setCell (by simp) _).setCell (by simp) _).setCell (by simp) _
        refine bodyPost_ret (v := .tuple #[.agg zeroP, .int .i64 2]) ?_ rfl ⟨none, 0, by rw [HP.out, HN.out]; rfl, by rw [HP.out]; exact rows_none _ _, by rw [HP.out]; exact fresh_none _ _ _, hbel⟩
        rw [results_two rfl]
        have hld := run_loadVar_row (P := Tryz.prog) wf (w.heap.size + 1) 24 24 zeroP (0, 0) _ hrow Tryz.underlying24 rfl infoP
        simp [asAddr, Result.andThen, hld]
      · have HSB : Hid (∀ j, j < i + 1 → sampB (numI s wd true true j) wd = true) := HYES.out hsb
        have s0 : w7.drew.cell? ⟨w.heap.size + 1 + 1 + 1, 3, none⟩ = some (.slice (some ⟨w.heap.size + 1 + 1, 0, none⟩) C C) := P7.out.drew.q3
        obtain ⟨o0, o1⟩ := P7.out.drew.row k hkC
        have ho : w7.drew.ownsRow (w.heap.size + 2) 3 1 (vs.getD k noS) lk.length (intsC lk) := by
          rw [← HLKE.out]
          exact P7.out.drew.mat.inner k (by rw [P7.out.len]; exact hkC)
        obtain ⟨ua, un, uc, hu⟩ := owns_shape ho
        have HUD : Hid (vs.getD k noS = .slice ua un uc) := hu
        rw [hu] at o0 ho
        have HO : Hid (w7.drew.ownsRow (w.heap.size + 2) 3 1 (.slice ua un uc) lk.length (intsC lk)) := ho
        have HSZ : Hid (w.heap.size + 4 ≤ w7.drew.heap.size) := P7.out.drew.size
        have HW : Hid (Up w true true rate (C : Int) wd C vs xs w7.drew) := P7.out.drew
        have HAL : Hid (Up w true true rate (C : Int) wd C vs xs (w7.drew.alloc (.cells #[.int .i64 x] 3))) := HW.out.next ((Below.refl _ _).alloc (Nat.le_refl _) _)
        have HOA : Hid ((w7.drew.alloc (.cells #[.int .i64 x] 3)).ownsRow (w.heap.size + 2) 3 1 (.slice ua un uc) lk.length (intsC lk)) := owns_below HO.out ((Below.refl _ _).alloc (Nat.le_refl _) _)
        have a0 : (w7.drew.alloc (.cells #[.int .i64 x] 3)).cell? ⟨w.heap.size + 1 + 1, k, none⟩ = some (.slice ua un uc) := by
          have := (HAL.out.row k hkC).1
          rwa [hu] at this
        have a0' : (w7.alloc (.cells #[.int .i64 x] 3)).cell? ⟨w.heap.size + 1 + 1, k, none⟩ = some (.slice ua un uc) := a0
        have sA : (w7.drew.alloc (.cells #[.int .i64 x] 3)).cell? ⟨w.heap.size + 1 + 1 + 1, 3, none⟩ = some (.slice (some ⟨w.heap.size + 1 + 1, 0, none⟩) C C) := HAL.out.q3
        have HPU : Hid (∀ v8 w8, (w7.drew.alloc (.cells #[.int .i64 x] 3)).grownBy w8 (Value.slice ua un uc).ownBlock → w8.ownsRow (w.heap.size + 2) 3 1 v8 (lk.length + 1) (intsC lk ++ [.int .i64 x]) → (v8.ownBlock = (Value.slice ua un uc).ownBlock ∨ v8.ownBlock = some (w7.drew.alloc (.cells #[.int .i64 x] 3)).heap.size) →
            w8.cell? ⟨w.heap.size + 1 + 1 + 1, 3, none⟩ = some (.slice (some ⟨w.heap.size + 1 + 1, 0, none⟩) C C) ∧ w8.cell? ⟨w.heap.size + 1 + 1, k, none⟩ = some (.slice ua un uc) ∧ w8.frozen? ⟨w.heap.size + 1 + 1, k, none⟩ = false ∧ Up w true true rate (C : Int) wd C (vs.set k v8) (xs.set k (lk ++ [x])) (w8.setCell ⟨w.heap.size + 1 + 1, k, none⟩ v8)) := fun v8 w8 hg hw hb => by
          rw [← HUD.out] at hg hb ⊢
          rw [← HLKE.out] at hw ⊢
          obtain ⟨t1, t2, t3⟩ := HAL.out.kept k hkC hg
          exact ⟨t1, t2, t3, HAL.out.push k hkC hg hw hb⟩
        clear P7 ho hu HW HAL
        go_wp2_with fail
        refine wp_region_held_drew (S := fun wx => wx.cell? ⟨w.heap.size + 1 + 1 + 1, 3, none⟩ = some (.slice (some ⟨w.heap.size + 1 + 1, 0, none⟩) C C)) (by kernel_rfl) s0 (fun hS => ?_)
        refine wpAnyH_take (i := 0) (v := .pointer (some ⟨w.heap.size + 1 + 1 + 1, 3, none⟩)) rfl (by kernel_rfl) (by kernel_rfl) (by kernel_rfl) (fun _ _ _ h => h) (Or.inl ⟨by rfl, fun w hSw => by have s1 := hSw; go_simp⟩) hS ?_
        simp only [Act.put, List.getElem_toArray, List.getElem_cons_succ, List.getElem_cons_zero, List.setIfInBounds_toArray, List.set_cons_zero, List.set_cons_succ]
        refine wpAnyH_take (i := 1) (v := .slice (some ⟨w.heap.size + 1 + 1, 0, none⟩) C C) rfl (by kernel_rfl) (by kernel_rfl) (by kernel_rfl) (fun _ _ _ h => h) (Or.inl ⟨by rfl, fun w hSw => by have s1 := hSw; go_simp⟩) hS ?_
        simp only [Act.put, List.getElem_toArray, List.getElem_cons_succ, List.getElem_cons_zero, List.setIfInBounds_toArray, List.set_cons_zero, List.set_cons_succ]
        refine wpAnyH_take (i := 2) (v := .int .i64 (i : Int)) rfl (by kernel_rfl) (by kernel_rfl) (by kernel_rfl) (fun _ _ _ h => h) (Or.inl ⟨by rfl, fun w hSw => by have s1 := hSw; go_simp⟩) hS ?_
        simp only [Act.put, List.getElem_toArray, List.getElem_cons_succ, List.getElem_cons_zero, List.setIfInBounds_toArray, List.set_cons_zero, List.set_cons_succ]
        refine wpAnyH_take (i := 3) (v := .int .i64 (C : Int)) rfl (by kernel_rfl) (by kernel_rfl) (by kernel_rfl) (fun _ _ _ h => h) (Or.inl ⟨by rfl, fun w hSw => by have s1 := hSw; go_simp⟩) hS ?_
        simp only [Act.put, List.getElem_toArray, List.getElem_cons_succ, List.getElem_cons_zero, List.setIfInBounds_toArray, List.set_cons_zero, List.set_cons_succ]
        refine wpAnyH_take (i := 4) (v := .int .i64 (k : Int)) rfl (by kernel_rfl) (by kernel_rfl) (by kernel_rfl) (fun _ _ _ h => h) (Or.inl ⟨by rfl, fun w hSw => by have s1 := hSw; go_simp⟩) hS ?_
        simp only [Act.put, List.getElem_toArray, List.getElem_cons_succ, List.getElem_cons_zero, List.setIfInBounds_toArray, List.set_cons_zero, List.set_cons_succ]
        refine wpAnyH_take (i := 5) (v := .pointer (some ⟨w.heap.size + 1 + 1 + 1, 3, none⟩)) rfl (by kernel_rfl) (by kernel_rfl) (by kernel_rfl) (fun _ _ _ h => h) (Or.inl ⟨by rfl, fun w hSw => by have s1 := hSw; go_simp⟩) hS ?_
        simp only [Act.put, List.getElem_toArray, List.getElem_cons_succ, List.getElem_cons_zero, List.setIfInBounds_toArray, List.set_cons_zero, List.set_cons_succ]
        refine wpAnyH_take (i := 6) (v := .slice (some ⟨w.heap.size + 1 + 1, 0, none⟩) C C) rfl (by kernel_rfl) (by kernel_rfl) (by kernel_rfl) (fun _ _ _ h => h) (Or.inl ⟨by rfl, fun w hSw => by have s1 := hSw; go_simp⟩) hS ?_
        simp only [Act.put, List.getElem_toArray, List.getElem_cons_succ, List.getElem_cons_zero, List.setIfInBounds_toArray, List.set_cons_zero, List.set_cons_succ]
        refine wpAnyH_take (i := 7) (v := .int .i64 (i : Int)) rfl (by kernel_rfl) (by kernel_rfl) (by kernel_rfl) (fun _ _ _ h => h) (Or.inl ⟨by rfl, fun w hSw => by have s1 := hSw; go_simp⟩) hS ?_
        simp only [Act.put, List.getElem_toArray, List.getElem_cons_succ, List.getElem_cons_zero, List.setIfInBounds_toArray, List.set_cons_zero, List.set_cons_succ]
        refine wpAnyH_take (i := 8) (v := .int .i64 (C : Int)) rfl (by kernel_rfl) (by kernel_rfl) (by kernel_rfl) (fun _ _ _ h => h) (Or.inl ⟨by rfl, fun w hSw => by have s1 := hSw; go_simp⟩) hS ?_
        simp only [Act.put, List.getElem_toArray, List.getElem_cons_succ, List.getElem_cons_zero, List.setIfInBounds_toArray, List.set_cons_zero, List.set_cons_succ]
        refine wpAnyH_take (i := 9) (v := .int .i64 (k : Int)) rfl (by kernel_rfl) (by kernel_rfl) (by kernel_rfl) (fun _ _ _ h => h) (Or.inl ⟨by rfl, fun w hSw => by have s1 := hSw; go_simp⟩) hS ?_
        simp only [Act.put, List.getElem_toArray, List.getElem_cons_succ, List.getElem_cons_zero, List.setIfInBounds_toArray, List.set_cons_zero, List.set_cons_succ]
        refine wpAnyH_take (i := 10) (v := .pointer (some ⟨w.heap.size + 1 + 1, k, none⟩)) rfl (by kernel_rfl) (by kernel_rfl) (by kernel_rfl) (fun _ _ _ h => h) (Or.inl ⟨by rfl, fun w hSw => by have s1 := hSw; go_simp⟩) hS ?_
        simp only [Act.put, List.getElem_toArray, List.getElem_cons_succ, List.getElem_cons_zero, List.setIfInBounds_toArray, List.set_cons_zero, List.set_cons_succ]
        refine wpAnyH_take (i := 12) (v := .int .i64 x) rfl (by kernel_rfl) (by kernel_rfl) (by kernel_rfl) (fun _ _ _ h => h) (Or.inl ⟨by rfl, fun w hSw => by have s1 := hSw; go_simp⟩) hS ?_
        simp only [Act.put, List.getElem_toArray, List.getElem_cons_succ, List.getElem_cons_zero, List.setIfInBounds_toArray, List.set_cons_zero, List.set_cons_succ]
        refine wpAnyH_ready (rs := [11, 13]) (by kernel_rfl) (by simp) ?_
        refine AllReadyH.cons rfl (fun K hK => ?_) ?_
        · go_simp
          refine hK.out _ _ hS (fun hSa => ?_)
          clear hK K
          refine wpAnyH_ready (rs := [13]) (by kernel_rfl) (by simp) ?_
          refine AllReadyH.cons rfl (fun K hK => ?_) AllReadyH.nil
          go_simp
          refine hK.out _ _ ?_ (fun hSb => ?_)
          · exact sA
          clear hK K
          refine wpAnyH_ready (rs := [14]) (by kernel_rfl) (by simp) ?_
          refine AllReadyH.cons rfl (fun K hK => ?_) AllReadyH.nil
          refine step_append_src _ rfl (.tmp 126) (.tmp 128) 95 rfl (w.heap.size + 2) 3 i3 (.int .i64 0) 8 Tryz.underlying95 H3.out.1 H3.out.2.1 H3.out.2.2.1 H3.out.2.2.2 rfl (.slice ua un uc) lk.length (intsC lk) rfl HOA.out (some ⟨w7.drew.heap.size, 0, none⟩) 1 1 [.int .i64 x] rfl (fun q => (by cases q)) rfl (fun ad q j y hj => one_cell q hj) (fun y hy => by rw [List.mem_singleton] at hy; subst hy; rfl) (by have := HLK.out; simp only [maxLen]; omega) (by have := HLK.out; omega) (by have := HSZ.out; simp at this ⊢; omega) ?_
          intro v8 w8 ho8 hg8 hb8
          obtain ⟨va, vn, vc, rfl⟩ := owns_shape ho8.out
          obtain ⟨C81, C82, C83, C84⟩ := HPU.out _ _ hg8.out ho8.out hb8.out
          have HC8 : Hid (Up w true true rate (C : Int) wd C (vs.set k (.slice va vn vc)) (xs.set k (lk ++ [x])) (w8.setCell ⟨w.heap.size + 1 + 1, k, none⟩ (.slice va vn vc))) := C84
          refine hK.out _ _ C81 (fun hS8 => ?_)
          clear hK K C84
          refine wpAnyH_take (i := 15) (v := .pointer (some ⟨w.heap.size + 1 + 1, k, none⟩)) rfl (by kernel_rfl) (by kernel_rfl) (by kernel_rfl) (fun _ _ _ h => h) (Or.inl ⟨by rfl, fun w hSw => by have s1 := hSw; go_simp⟩) hS8 ?_
          simp only [Act.put, List.getElem_toArray, List.getElem_cons_succ, List.getElem_cons_zero, List.setIfInBounds_toArray, List.set_cons_zero, List.set_cons_succ]
          refine wpAnyH_ready (rs := [16]) (by kernel_rfl) (by simp) ?_
          refine AllReadyH.cons rfl (fun K hK => ?_) AllReadyH.nil
          go_simp
          refine hK.out _ _ HC8.out.q3 (fun hS9 => ?_)
          refine wpAnyH_done (by kernel_rfl) ?_ _
          clear hK K
          go_wp2_with fail
          go_roundw
          case rel => exact ⟨i + 1, by omega, by go_num, vs.set k (.slice va vn vc), by rw [HXS.out]; exact HC8.out, HSB.out⟩
          case measure => simp [intOf]; omega
        · refine AllReadyH.cons rfl (fun K hK => ?_) AllReadyH.nil
          go_simp
          refine hK.out _ _ ?_ (fun hSb => ?_)
          · exact sA
          clear hK K
          refine wpAnyH_ready (rs := [11]) (by kernel_rfl) (by simp) ?_
          refine AllReadyH.cons rfl (fun K hK => ?_) AllReadyH.nil
          go_simp
          refine hK.out _ _ hSb (fun hSc => ?_)
          clear hK K
          refine wpAnyH_ready (rs := [14]) (by kernel_rfl) (by simp) ?_
          refine AllReadyH.cons rfl (fun K hK => ?_) AllReadyH.nil
          refine step_append_src _ rfl (.tmp 126) (.tmp 128) 95 rfl (w.heap.size + 2) 3 i3 (.int .i64 0) 8 Tryz.underlying95 H3.out.1 H3.out.2.1 H3.out.2.2.1 H3.out.2.2.2 rfl (.slice ua un uc) lk.length (intsC lk) rfl HOA.out (some ⟨w7.drew.heap.size, 0, none⟩) 1 1 [.int .i64 x] rfl (fun q => (by cases q)) rfl (fun ad q j y hj => one_cell q hj) (fun y hy => by rw [List.mem_singleton] at hy; subst hy; rfl) (by have := HLK.out; simp only [maxLen]; omega) (by have := HLK.out; omega) (by have := HSZ.out; simp at this ⊢; omega) ?_
          intro v8 w8 ho8 hg8 hb8
          obtain ⟨va, vn, vc, rfl⟩ := owns_shape ho8.out
          obtain ⟨C81, C82, C83, C84⟩ := HPU.out _ _ hg8.out ho8.out hb8.out
          have HC8 : Hid (Up w true true rate (C : Int) wd C (vs.set k (.slice va vn vc)) (xs.set k (lk ++ [x])) (w8.setCell ⟨w.heap.size + 1 + 1, k, none⟩ (.slice va vn vc))) := C84
          refine hK.out _ _ C81 (fun hS8 => ?_)
          clear hK K C84
          refine wpAnyH_take (i := 15) (v := .pointer (some ⟨w.heap.size + 1 + 1, k, none⟩)) rfl (by kernel_rfl) (by kernel_rfl) (by kernel_rfl) (fun _ _ _ h => h) (Or.inl ⟨by rfl, fun w hSw => by have s1 := hSw; go_simp⟩) hS8 ?_
          simp only [Act.put, List.getElem_toArray, List.getElem_cons_succ, List.getElem_cons_zero, List.setIfInBounds_toArray, List.set_cons_zero, List.set_cons_succ]
          refine wpAnyH_ready (rs := [16]) (by kernel_rfl) (by simp) ?_
          refine AllReadyH.cons rfl (fun K hK => ?_) AllReadyH.nil
          go_simp
          refine hK.out _ _ HC8.out.q3 (fun hS9 => ?_)
          refine wpAnyH_done (by kernel_rfl) ?_ _
          clear hK K
          go_wp2_with fail
          go_roundw
          case rel => exact ⟨i + 1, by omega, by go_num, vs.set k (.slice va vn vc), by rw [HXS.out]; exact HC8.out, HSB.out⟩
          case measure => simp [intOf]; omega
    · have hie : i = K := by omega
      obtain ⟨HYE, HYP⟩ := HYS.out (fun j hj => HALL.out j (by omega))
      have HE : Hid (unpE s rate (C : Int) wd true true = 0) := HYE
      obtain ⟨xs, hxs⟩ : ∃ xs, upL s wd true true C i = xs := ⟨_, rfl⟩
      have HPE : Hid (unpP s rate (C : Int) wd true true = ⟨rate, (C : Int), wd, xs⟩) := by
        rw [← hie, hxs] at HYP
        exact HYP
      have HC : Hid (Up w true true rate (C : Int) wd C vs xs wr) := by
        have := HB.out
        rwa [hxs] at this
      have HLB : Hid (∀ k, k < xs.length → (xs.getD k []).length ≤ 17592186044415 ∧ ∀ n ∈ xs.getD k [], -9223372036854775808 ≤ n ∧ n ≤ 9223372036854775807) := fun k hk => by
        have hl := HC.out.len
        obtain ⟨g1, g2⟩ := upL_good s wd true true C i (fun j hj => HALL.out j hj) w1 w2 k (by omega)
        rw [hxs] at g1 g2
        exact ⟨by omega, g2⟩
      have e0 := HC.out.qc 0 (.int .i64 rate) rfl
      have e1 := HC.out.qc 1 (.int .i64 (C : Int)) rfl
      have e2 := HC.out.qc 2 (.int .i64 wd) rfl
      have e3 := HC.out.qc 3 (.slice (some ⟨w.heap.size + 1 + 1, 0, none⟩) C C) rfl
      have r0 := HC.out.r0
      have r1' := HC.out.r1
      have r2' := HC.out.r2
      have r3 := HC.out.r3
      have z0 := HC.out.z 0
      have z1 := HC.out.z 1
      have z2 := HC.out.z 2
      have z3 := HC.out.z 3
      clear HYE HYP hxs HB HALL HYS HNO
      go_wp2_with fail
      generalize hwf : (((wr.setCell ⟨w.heap.size + 1, 0, none⟩ (.int .i64 rate)).setCell ⟨w.heap.size + 1, 1, none⟩ (.int .i64 (C : Int))).setCell ⟨w.heap.size + 1, 2, none⟩ (.int .i64 wd)).setCell ⟨w.heap.size + 1, 3, none⟩ (.slice (some ⟨w.heap.size + 1 + 1, 0, none⟩) C C) = wf
      have hrow : wf.heap[w.heap.size + 1]? = some (.cells #[.int .i64 rate, .int .i64 (C : Int), .int .i64 wd, .slice (some ⟨w.heap.size + 1 + 1, 0, none⟩) C C] 24 (0, 0)) := by
        rw [← hwf, block_set _ _ _ _ _ _ (block_set _ _ _ _ _ _ (block_set _ _ _ _ _ _ (block_set _ _ _ _ _ _ HC.out.res)))]
        rfl
      have hbel : Below w.heap.size w wf := by
        rw [← hwf]
        exact (((HC.out.below.setCell (by simp) _).setCell (by simp) _).setCell (by simp) _).setCell (by simp) _
      have hmat : OwnMat 95 (w.heap.size + 2) wf (.slice (some ⟨w.heap.size + 1 + 1, 0, none⟩) C C) vs xs := by
        rw [← hwf]
        exact (((HC.out.mat.setOther (by simp) _).setOther (by simp) _).setOther (by simp) _).setOther (by simp) _
      obtain ⟨ao2, cap2, hv2, hrows2, hfr2⟩ := hmat.rows (by have := HC.out.len; omega) HLB.out
      have hlen := HC.out.len
      rw [hlen] at hv2
      cases hv2
      refine bodyPost_ret (v := .tuple #[.agg #[.int .i64 rate, .int .i64 (C : Int), .int .i64 wd, .slice (some ⟨w.heap.size + 1 + 1, 0, none⟩) C C], .int .i64 0]) ?_ rfl ⟨some ⟨w.heap.size + 1 + 1, 0, none⟩, C, by rw [HPE.out, HE.out]; show _ = _; unfold pcmV pcmC; rw [hlen], by rw [HPE.out]; exact hrows2, by rw [HPE.out]; exact hfr2.mono (Nat.le_add_right _ _), hbel⟩
      rw [results_two rfl]
      have hld := run_loadVar_row (P := Tryz.prog) wf (w.heap.size + 1) 24 24 _ (0, 0) _ hrow Tryz.underlying24 rfl infoP
      simp [asAddr, Result.andThen, hld]

set_option maxRecDepth 20000 in
set_option maxHeartbeats 6400000 in
theorem runpack_false_true (s : ByteArray) (rate wd : Int) (C : Nat) (w : World) (hs : s.size ≤ 1000000000000000000) (hh : uheadB rate (C : Int) wd = true) (hm : s.size % (nby wd * C) = 0) (h5 : s.size / (nby wd * C) ≤ 1048576) :
    Calls Tryz.prog 21 #[.string s, .int .i64 rate, .int .i64 (C : Int), .int .i64 wd, .agg #[.bool true, .bool false]] w fun e w' => Gives w (unpP s rate (C : Int) wd true false) (unpE s rate (C : Int) wd true false) e w' := by
  have HNO : Hid (∀ i, i < s.size / nby wd → sampB (numI s wd true false i) wd = false → unpE s rate (C : Int) wd true false = 2) := fun i hi hb => by
    unfold unpE
    rw [hh, if_pos rfl, Int.toNat_natCast, if_pos hm, if_neg (by omega), if_neg (fun q => by rw [q i hi] at hb; cases hb)]
  have HYS : Hid ((∀ i, i < s.size / nby wd → sampB (numI s wd true false i) wd = true) → unpE s rate (C : Int) wd true false = 0 ∧ unpP s rate (C : Int) wd true false = ⟨rate, (C : Int), wd, upL s wd true false C (s.size / nby wd)⟩) := fun q => by
    have e : unpE s rate (C : Int) wd true false = 0 := by
      unfold unpE
      rw [hh, if_pos rfl, Int.toNat_natCast, if_pos hm, if_neg (by omega), if_pos q]
    refine ⟨e, ?_⟩
    unfold unpP
    rw [if_pos e, Int.toNat_natCast]
  have HU0 : Hid (Up w true false rate (C : Int) wd C (List.replicate C noS) (List.replicate C []) _) := Up.new w true false rate (C : Int) wd C (by have := uhead_parts hh; omega)
  obtain ⟨r1, r2, c1, c2, w1, w2⟩ := uhead_parts hh
  obtain ⟨n1, n2, n3, n4⟩ := nby_range wd w1 w2
  have hw : (wd + 7) / 8 = (nby wd : Int) := n4.symm
  have hmk := make_rows C (by omega)
  obtain ⟨hp1, hp2⟩ := pow31 (wd - 1).toNat (by omega)
  have hkw : (wd - 1).toNat = wd.toNat - 1 := by omega
  rw [hkw] at hp1 hp2
  obtain ⟨H, hH⟩ : ∃ H : Int, (2 : Int) ^ (wd.toNat - 1) = H := ⟨_, rfl⟩
  rw [hH] at hp1 hp2
  have HKE : Hid (s.size / nby wd ≤ 8388608) := by
    show _ ≤ _
    have e : s.size = nby wd * C * (s.size / (nby wd * C)) := by
      have := Nat.div_add_mod s.size (nby wd * C)
      omega
    have e2 : s.size / nby wd = C * (s.size / (nby wd * C)) := by
      have : s.size = nby wd * (C * (s.size / (nby wd * C))) := by rw [← Nat.mul_assoc]; exact e
      exact Nat.div_eq_of_eq_mul_right (by omega) this
    rw [e2]
    exact Nat.le_trans (Nat.mul_le_mul (by omega : C ≤ 8) h5) (by decide)
  have hmul : (nby wd : Int) * (C : Int) = ((nby wd * C : Nat) : Int) := by simp
  have hq1 : 1 ≤ nby wd * C := Nat.mul_le_mul n1 (by omega : 1 ≤ C)
  have hq2 : nby wd * C ≤ 4 * 8 := Nat.mul_le_mul n2 (by omega : C ≤ 8)
  have hb : ((s.size : Int) % ((nby wd * C : Nat) : Int) == 0) = true := by
    rw [beq_iff_eq]
    omega
  have hqd : (s.size : Int) / ((nby wd * C : Nat) : Int) = ((s.size / (nby wd * C) : Nat) : Int) := by simp
  have hkd : (s.size : Int) / (nby wd : Int) = ((s.size / nby wd : Nat) : Int) := by simp
  have HKM : Hid (s.size / nby wd * nby wd ≤ s.size) := Nat.div_mul_le_self _ _
  obtain ⟨i3, h30, h31, h32, h33⟩ := info_parts info3'
  have H3 : Hid (Tryz.prog.info? 3 = some i3 ∧ i3.zero = some (.int .i64 0) ∧ i3.size = 1 ∧ i3.bytes = 8) := ⟨h30, h31, h32, h33⟩
  clear hh h30 h31 h32 h33 n4
  generalize nby wd * C = M at *
  generalize s.size / M = Q at *
  generalize hK : s.size / nby wd = K at *
  have hKb : K ≤ 8388608 := HKE.out
  clear hK HKE
  go_enter Tryz.func21, Tryz.ntmps21
  go_wp2_with fail
  generalize hwa : World.alloc _ _ = wa
  have HA : Hid (Up w true false rate (C : Int) wd C (List.replicate C noS) (List.replicate C []) wa) := by
    rw [← hwa]
    exact HU0.out
  clear hwa HU0
  rw [hw]
  generalize Value.bool ((s.size : Int) % (M : Int) != 0) = v49
  generalize Value.int IntKind.i64 ((s.size : Int) % (M : Int)) = v48
  go_loopw [14] (fun t wr => ∃ i : Nat, i ≤ K ∧ t = .int .i64 (i : Int) ∧ ∃ vs, Up w true false rate (C : Int) wd C vs (upL s wd true false C i) wr ∧ ∀ j, j < i → sampB (numI s wd true false j) wd = true) (fun t _ => K - (intOf t).toNat)
  case atStart => exact ⟨0, Nat.zero_le _, rfl, List.replicate C noS, HA.out, fun j hj => absurd hj (Nat.not_lt_zero _)⟩
  case round =>
    clear HA
    obtain ⟨i, hi, rfl, vs, hup, hall⟩ := hrel
    have HB : Hid (Up w true false rate (C : Int) wd C vs (upL s wd true false C i) wr) := hup
    have HALL : Hid (∀ j, j < i → sampB (numI s wd true false j) wd = true) := hall
    clear hup hall
    by_cases hlt : i < K
    · have hle : i * nby wd + nby wd ≤ s.size := by
        have h1 : (i + 1) * nby wd ≤ K * nby wd := Nat.mul_le_mul_right _ (by omega)
        rw [Nat.succ_mul] at h1
        have := HKM.out
        omega
      have hml := mOf_lt s (nby wd) true i hle
      have hm4 : mOf s (nby wd) true i ≤ 4294967295 := by
        have q1 : 256 ^ nby wd ≤ 256 ^ 4 := Nat.pow_le_pow_right (by decide) n2
        have q3 : (256 : Nat) ^ 4 = 4294967296 := by decide
        omega
      have hsz := bytesOf_ext s (i * nby wd) (i * nby wd + nby wd) (by omega) hle
      have kle := reffromLe_spec (s.extract (i * nby wd) (i * nby wd + nby wd)) (by omega)
      have kbe := reffromBe_spec (s.extract (i * nby wd) (i * nby wd + nby wd)) (by omega)
      have hmv : fromBe (bytesOf (s.extract (i * nby wd) (i * nby wd + nby wd))) = (mOf s (nby wd) true i : Int) := by
        have e : mOf s (nby wd) true i = val (bytesOf (s.extract (i * nby wd) (i * nby wd + nby wd))) := rfl
        rw [e] at hm4 ⊢
        refine fromBe_of _ ?_ (by omega)
        
        rw [bytesOf_length]
        omega
      rw [hmv] at kbe
      generalize fromBe (bytesOf (s.extract (i * nby wd) (i * nby wd + nby wd))).reverse = nl at kle
      obtain ⟨m, hmm⟩ : ∃ m : Nat, mOf s (nby wd) true i = m := ⟨_, rfl⟩
      have HX : Hid (numI s wd true false i = decN wd false m) := by
        show _ = _
        rw [← hmm]
        rfl
      rw [hmm] at hm4 kbe
      obtain ⟨xs, hxs⟩ : ∃ xs, upL s wd true false C i = xs := ⟨_, rfl⟩
      obtain ⟨k, hk⟩ : ∃ k, i % C = k := ⟨_, rfl⟩
      obtain ⟨lk, hlk⟩ : ∃ lk, xs.getD k [] = lk := ⟨_, rfl⟩
      obtain ⟨x, hx⟩ : ∃ x, numI s wd true false i = x := ⟨_, rfl⟩
      have HXS : Hid (upL s wd true false C (i + 1) = xs.set k (lk ++ [x])) := by
        show _ = _
        rw [← hlk, ← hk, ← hxs, ← hx]
        rfl
      have HLKE : Hid (xs.getD k [] = lk) := hlk
      have HB2 : Hid (Up w true false rate (C : Int) wd C vs xs wr) := by
        have := HB.out
        rwa [hxs] at this
      have HNI : Hid (sampB x wd = false → unpE s rate (C : Int) wd true false = 2) := by
        have := HNO.out i hlt
        rwa [hx] at this
      have HYES : Hid (sampB x wd = true → ∀ j, j < i + 1 → sampB (numI s wd true false j) wd = true) := fun hb j hj => by
        by_cases e : j = i
        · rw [e, hx]
          exact hb
        · exact HALL.out j (by omega)
      have HLK : Hid (lk.length ≤ 8388608) := by
        have h1 := upL_len s wd true false C i (i % C)
        rw [hxs, hk, hlk] at h1
        show _ ≤ _
        omega
      have hkC : k < C := by rw [← hk]; exact Nat.mod_lt _ (by omega)
      have hrm1 : Int.tmod (i : Int) (C : Int) = (k : Int) := by
        rw [Int.tmod_eq_emod_of_nonneg (by omega), ← hk]
        simp
      have hrm2 : (i : Int) % (C : Int) = (k : Int) := by
        rw [← hk]
        simp
      have ha : (i : Int) * (nby wd : Int) = ((i * nby wd : Nat) : Int) := by simp
      have HX2 : Hid (x = decN wd false m) := by
        have := HX.out
        rwa [hx] at this
      have hC0 : ¬ C = 0 := by omega
      have l0 := HB2.out.l0
      have l1 := HB2.out.l1
      clear hmv hml hmm HALL HX hx hlk hk hxs HB HNO HYS hmk hqd hb hmul
      have hsl := slice_run s (i * nby wd) (i * nby wd + nby wd) (by omega) hle
      have hab : ((i * nby wd : Nat) : Int) + (nby wd : Int) = ((i * nby wd + nby wd : Nat) : Int) := by simp
      generalize i * nby wd + nby wd = b at *
      generalize hA : i * nby wd = a at *
      have ha63 : a ≤ b := by omega
      generalize hT : s.extract a b = tx at *
      clear hA hT
      obtain ⟨G, hG⟩ : ∃ G : Int, (2 : Int) ^ (8 * nby wd - 1) = G := ⟨_, rfl⟩
      obtain ⟨MM, hMM⟩ : ∃ G : Int, (2 : Int) ^ (8 * nby wd) = G := ⟨_, rfl⟩
      obtain ⟨hG1, hG2⟩ := pow31 (8 * nby wd - 1) (by omega)
      have hM1 : 1 ≤ MM ∧ MM ≤ 4294967296 := by
        have q1 : 256 ^ nby wd ≤ 256 ^ 4 := Nat.pow_le_pow_right (by decide) n2
        have q2 : 0 < 256 ^ nby wd := Nat.pow_pos (by decide)
        have q3 : (256 : Nat) ^ 4 = 4294967296 := by decide
        rw [← hMM, pow_eq, pow256]
        omega
      rw [hG] at hG1 hG2
      have h8 : (8 * (nby wd : Int)).toNat = 8 * nby wd := by omega
      have h81 : (8 * (nby wd : Int) - 1).toNat = 8 * nby wd - 1 := by omega
      by_cases hge : G ≤ (m : Int)
      · have hadd : (m : Int) - MM = x := by
          have h := HX2.out
          unfold decN at h
          rw [if_neg (by decide), hG, if_pos hge, hMM] at h
          exact h.symm
        clear HX2
        go_wp2_with fail
        refine (kle wr).mono ?_
        rintro e w5 ⟨rfl, hB5⟩
        have P5 : Hid (Up w true false rate (C : Int) wd C vs xs w5) := HB2.out.next hB5
        clear hB5
        have m0 := P5.out.l0
        have m1 := P5.out.l1
        go_wp2_with fail
        refine (kbe w5).mono ?_
        rintro e w6 ⟨rfl, q6⟩
        subst q6
        go_wp2_with fail
        refine (rsample_spec x wd w1 w2 _).mono ?_
        rintro e w7 ⟨rfl, q7⟩
        have P7 : Hid (Up w true false rate (C : Int) wd C vs xs w7) := by
          rw [q7]
          exact P5.out
        clear q7 P5
        cases hsb : sampB x wd
        · have HN : Hid (unpE s rate (C : Int) wd true false = 2) := HNI.out hsb
          have HP : Hid (unpP s rate (C : Int) wd true false = noP) := by
            show _ = _
            unfold unpP
            rw [HN.out]
            rfl
          have r0 := P7.out.r0
          have r1 := P7.out.r1
          have r2 := P7.out.r2
          have r3 := P7.out.r3
          have z0 := P7.out.z 0
          have z1 := P7.out.z 1
          have z2 := P7.out.z 2
          have z3 := P7.out.z 3
          have HU : Hid (Un w true false w7) := P7.out.un
          clear P7
          go_wp2_with fail
          generalize hwf : ((((w7).setCell ⟨w.heap.size + 1, 0, none⟩ (.int .i64 0)).setCell ⟨w.heap.size + 1, 1, none⟩ (.int .i64 0)).setCell ⟨w.heap.size + 1, 2, none⟩ (.int .i64 0)).setCell ⟨w.heap.size + 1, 3, none⟩ (.slice none 0 0) = wf
          have hrow : wf.heap[w.heap.size + 1]? = some (.cells zeroP 24 (0, 0)) := by
            rw [← hwf, block_set _ _ _ _ _ _ (block_set _ _ _ _ _ _ (block_set _ _ _ _ _ _ (block_set _ _ _ _ _ _ HU.out.res)))]
            rfl
          have hbel : Below w.heap.size w wf := by
            rw [← hwf]
            exact (((HU.out.below.setCell (by simp) _).setCell (by simp) _).setCell (by simp) _).setCell (by simp) _
          refine bodyPost_ret (v := .tuple #[.agg zeroP, .int .i64 2]) ?_ rfl ⟨none, 0, by rw [HP.out, HN.out]; rfl, by rw [HP.out]; exact rows_none _ _, by rw [HP.out]; exact fresh_none _ _ _, hbel⟩
          rw [results_two rfl]
          have hld := run_loadVar_row (P := Tryz.prog) wf (w.heap.size + 1) 24 24 zeroP (0, 0) _ hrow Tryz.underlying24 rfl infoP
          simp [asAddr, Result.andThen, hld]
        · have HSB : Hid (∀ j, j < i + 1 → sampB (numI s wd true false j) wd = true) := HYES.out hsb
          have s0 : w7.drew.cell? ⟨w.heap.size + 1 + 1 + 1, 3, none⟩ = some (.slice (some ⟨w.heap.size + 1 + 1, 0, none⟩) C C) := P7.out.drew.q3
          obtain ⟨o0, o1⟩ := P7.out.drew.row k hkC
          have ho : w7.drew.ownsRow (w.heap.size + 2) 3 1 (vs.getD k noS) lk.length (intsC lk) := by
            rw [← HLKE.out]
            exact P7.out.drew.mat.inner k (by rw [P7.out.len]; exact hkC)
          obtain ⟨ua, un, uc, hu⟩ := owns_shape ho
          have HUD : Hid (vs.getD k noS = .slice ua un uc) := hu
          rw [hu] at o0 ho
          have HO : Hid (w7.drew.ownsRow (w.heap.size + 2) 3 1 (.slice ua un uc) lk.length (intsC lk)) := ho
          have HSZ : Hid (w.heap.size + 4 ≤ w7.drew.heap.size) := P7.out.drew.size
          have HW : Hid (Up w true false rate (C : Int) wd C vs xs w7.drew) := P7.out.drew
          have HAL : Hid (Up w true false rate (C : Int) wd C vs xs (w7.drew.alloc (.cells #[.int .i64 x] 3))) := HW.out.next ((Below.refl _ _).alloc (Nat.le_refl _) _)
          have HOA : Hid ((w7.drew.alloc (.cells #[.int .i64 x] 3)).ownsRow (w.heap.size + 2) 3 1 (.slice ua un uc) lk.length (intsC lk)) := owns_below HO.out ((Below.refl _ _).alloc (Nat.le_refl _) _)
          have a0 : (w7.drew.alloc (.cells #[.int .i64 x] 3)).cell? ⟨w.heap.size + 1 + 1, k, none⟩ = some (.slice ua un uc) := by
            have := (HAL.out.row k hkC).1
            rwa [hu] at this
          have a0' : (w7.alloc (.cells #[.int .i64 x] 3)).cell? ⟨w.heap.size + 1 + 1, k, none⟩ = some (.slice ua un uc) := a0
          have sA : (w7.drew.alloc (.cells #[.int .i64 x] 3)).cell? ⟨w.heap.size + 1 + 1 + 1, 3, none⟩ = some (.slice (some ⟨w.heap.size + 1 + 1, 0, none⟩) C C) := HAL.out.q3
          have HPU : Hid (∀ v8 w8, (w7.drew.alloc (.cells #[.int .i64 x] 3)).grownBy w8 (Value.slice ua un uc).ownBlock → w8.ownsRow (w.heap.size + 2) 3 1 v8 (lk.length + 1) (intsC lk ++ [.int .i64 x]) → (v8.ownBlock = (Value.slice ua un uc).ownBlock ∨ v8.ownBlock = some (w7.drew.alloc (.cells #[.int .i64 x] 3)).heap.size) →
              w8.cell? ⟨w.heap.size + 1 + 1 + 1, 3, none⟩ = some (.slice (some ⟨w.heap.size + 1 + 1, 0, none⟩) C C) ∧ w8.cell? ⟨w.heap.size + 1 + 1, k, none⟩ = some (.slice ua un uc) ∧ w8.frozen? ⟨w.heap.size + 1 + 1, k, none⟩ = false ∧ Up w true false rate (C : Int) wd C (vs.set k v8) (xs.set k (lk ++ [x])) (w8.setCell ⟨w.heap.size + 1 + 1, k, none⟩ v8)) := fun v8 w8 hg hw hb => by
            rw [← HUD.out] at hg hb ⊢
            rw [← HLKE.out] at hw ⊢
            obtain ⟨t1, t2, t3⟩ := HAL.out.kept k hkC hg
            exact ⟨t1, t2, t3, HAL.out.push k hkC hg hw hb⟩
          clear P7 ho hu HW HAL
          go_wp2_with fail
          refine wp_region_held_drew (S := fun wx => wx.cell? ⟨w.heap.size + 1 + 1 + 1, 3, none⟩ = some (.slice (some ⟨w.heap.size + 1 + 1, 0, none⟩) C C)) (by kernel_rfl) s0 (fun hS => ?_)
          refine wpAnyH_take (i := 0) (v := .pointer (some ⟨w.heap.size + 1 + 1 + 1, 3, none⟩)) rfl (by kernel_rfl) (by kernel_rfl) (by kernel_rfl) (fun _ _ _ h => h) (Or.inl ⟨by rfl, fun w hSw => by have s1 := hSw; go_simp⟩) hS ?_
          simp only [Act.put, List.getElem_toArray, List.getElem_cons_succ, List.getElem_cons_zero, List.setIfInBounds_toArray, List.set_cons_zero, List.set_cons_succ]
          refine wpAnyH_take (i := 1) (v := .slice (some ⟨w.heap.size + 1 + 1, 0, none⟩) C C) rfl (by kernel_rfl) (by kernel_rfl) (by kernel_rfl) (fun _ _ _ h => h) (Or.inl ⟨by rfl, fun w hSw => by have s1 := hSw; go_simp⟩) hS ?_
          simp only [Act.put, List.getElem_toArray, List.getElem_cons_succ, List.getElem_cons_zero, List.setIfInBounds_toArray, List.set_cons_zero, List.set_cons_succ]
          refine wpAnyH_take (i := 2) (v := .int .i64 (i : Int)) rfl (by kernel_rfl) (by kernel_rfl) (by kernel_rfl) (fun _ _ _ h => h) (Or.inl ⟨by rfl, fun w hSw => by have s1 := hSw; go_simp⟩) hS ?_
          simp only [Act.put, List.getElem_toArray, List.getElem_cons_succ, List.getElem_cons_zero, List.setIfInBounds_toArray, List.set_cons_zero, List.set_cons_succ]
          refine wpAnyH_take (i := 3) (v := .int .i64 (C : Int)) rfl (by kernel_rfl) (by kernel_rfl) (by kernel_rfl) (fun _ _ _ h => h) (Or.inl ⟨by rfl, fun w hSw => by have s1 := hSw; go_simp⟩) hS ?_
          simp only [Act.put, List.getElem_toArray, List.getElem_cons_succ, List.getElem_cons_zero, List.setIfInBounds_toArray, List.set_cons_zero, List.set_cons_succ]
          refine wpAnyH_take (i := 4) (v := .int .i64 (k : Int)) rfl (by kernel_rfl) (by kernel_rfl) (by kernel_rfl) (fun _ _ _ h => h) (Or.inl ⟨by rfl, fun w hSw => by have s1 := hSw; go_simp⟩) hS ?_
          simp only [Act.put, List.getElem_toArray, List.getElem_cons_succ, List.getElem_cons_zero, List.setIfInBounds_toArray, List.set_cons_zero, List.set_cons_succ]
          refine wpAnyH_take (i := 5) (v := .pointer (some ⟨w.heap.size + 1 + 1 + 1, 3, none⟩)) rfl (by kernel_rfl) (by kernel_rfl) (by kernel_rfl) (fun _ _ _ h => h) (Or.inl ⟨by rfl, fun w hSw => by have s1 := hSw; go_simp⟩) hS ?_
          simp only [Act.put, List.getElem_toArray, List.getElem_cons_succ, List.getElem_cons_zero, List.setIfInBounds_toArray, List.set_cons_zero, List.set_cons_succ]
          refine wpAnyH_take (i := 6) (v := .slice (some ⟨w.heap.size + 1 + 1, 0, none⟩) C C) rfl (by kernel_rfl) (by kernel_rfl) (by kernel_rfl) (fun _ _ _ h => h) (Or.inl ⟨by rfl, fun w hSw => by have s1 := hSw; go_simp⟩) hS ?_
          simp only [Act.put, List.getElem_toArray, List.getElem_cons_succ, List.getElem_cons_zero, List.setIfInBounds_toArray, List.set_cons_zero, List.set_cons_succ]
          refine wpAnyH_take (i := 7) (v := .int .i64 (i : Int)) rfl (by kernel_rfl) (by kernel_rfl) (by kernel_rfl) (fun _ _ _ h => h) (Or.inl ⟨by rfl, fun w hSw => by have s1 := hSw; go_simp⟩) hS ?_
          simp only [Act.put, List.getElem_toArray, List.getElem_cons_succ, List.getElem_cons_zero, List.setIfInBounds_toArray, List.set_cons_zero, List.set_cons_succ]
          refine wpAnyH_take (i := 8) (v := .int .i64 (C : Int)) rfl (by kernel_rfl) (by kernel_rfl) (by kernel_rfl) (fun _ _ _ h => h) (Or.inl ⟨by rfl, fun w hSw => by have s1 := hSw; go_simp⟩) hS ?_
          simp only [Act.put, List.getElem_toArray, List.getElem_cons_succ, List.getElem_cons_zero, List.setIfInBounds_toArray, List.set_cons_zero, List.set_cons_succ]
          refine wpAnyH_take (i := 9) (v := .int .i64 (k : Int)) rfl (by kernel_rfl) (by kernel_rfl) (by kernel_rfl) (fun _ _ _ h => h) (Or.inl ⟨by rfl, fun w hSw => by have s1 := hSw; go_simp⟩) hS ?_
          simp only [Act.put, List.getElem_toArray, List.getElem_cons_succ, List.getElem_cons_zero, List.setIfInBounds_toArray, List.set_cons_zero, List.set_cons_succ]
          refine wpAnyH_take (i := 10) (v := .pointer (some ⟨w.heap.size + 1 + 1, k, none⟩)) rfl (by kernel_rfl) (by kernel_rfl) (by kernel_rfl) (fun _ _ _ h => h) (Or.inl ⟨by rfl, fun w hSw => by have s1 := hSw; go_simp⟩) hS ?_
          simp only [Act.put, List.getElem_toArray, List.getElem_cons_succ, List.getElem_cons_zero, List.setIfInBounds_toArray, List.set_cons_zero, List.set_cons_succ]
          refine wpAnyH_take (i := 12) (v := .int .i64 x) rfl (by kernel_rfl) (by kernel_rfl) (by kernel_rfl) (fun _ _ _ h => h) (Or.inl ⟨by rfl, fun w hSw => by have s1 := hSw; go_simp⟩) hS ?_
          simp only [Act.put, List.getElem_toArray, List.getElem_cons_succ, List.getElem_cons_zero, List.setIfInBounds_toArray, List.set_cons_zero, List.set_cons_succ]
          refine wpAnyH_ready (rs := [11, 13]) (by kernel_rfl) (by simp) ?_
          refine AllReadyH.cons rfl (fun K hK => ?_) ?_
          · go_simp
            refine hK.out _ _ hS (fun hSa => ?_)
            clear hK K
            refine wpAnyH_ready (rs := [13]) (by kernel_rfl) (by simp) ?_
            refine AllReadyH.cons rfl (fun K hK => ?_) AllReadyH.nil
            go_simp
            refine hK.out _ _ ?_ (fun hSb => ?_)
            · exact sA
            clear hK K
            refine wpAnyH_ready (rs := [14]) (by kernel_rfl) (by simp) ?_
            refine AllReadyH.cons rfl (fun K hK => ?_) AllReadyH.nil
            refine step_append_src _ rfl (.tmp 126) (.tmp 128) 95 rfl (w.heap.size + 2) 3 i3 (.int .i64 0) 8 Tryz.underlying95 H3.out.1 H3.out.2.1 H3.out.2.2.1 H3.out.2.2.2 rfl (.slice ua un uc) lk.length (intsC lk) rfl HOA.out (some ⟨w7.drew.heap.size, 0, none⟩) 1 1 [.int .i64 x] rfl (fun q => (by cases q)) rfl (fun ad q j y hj => one_cell q hj) (fun y hy => by rw [List.mem_singleton] at hy; subst hy; rfl) (by have := HLK.out; simp only [maxLen]; omega) (by have := HLK.out; omega) (by have := HSZ.out; simp at this ⊢; omega) ?_
            intro v8 w8 ho8 hg8 hb8
            obtain ⟨va, vn, vc, rfl⟩ := owns_shape ho8.out
            obtain ⟨C81, C82, C83, C84⟩ := HPU.out _ _ hg8.out ho8.out hb8.out
            have HC8 : Hid (Up w true false rate (C : Int) wd C (vs.set k (.slice va vn vc)) (xs.set k (lk ++ [x])) (w8.setCell ⟨w.heap.size + 1 + 1, k, none⟩ (.slice va vn vc))) := C84
            refine hK.out _ _ C81 (fun hS8 => ?_)
            clear hK K C84
            refine wpAnyH_take (i := 15) (v := .pointer (some ⟨w.heap.size + 1 + 1, k, none⟩)) rfl (by kernel_rfl) (by kernel_rfl) (by kernel_rfl) (fun _ _ _ h => h) (Or.inl ⟨by rfl, fun w hSw => by have s1 := hSw; go_simp⟩) hS8 ?_
            simp only [Act.put, List.getElem_toArray, List.getElem_cons_succ, List.getElem_cons_zero, List.setIfInBounds_toArray, List.set_cons_zero, List.set_cons_succ]
            refine wpAnyH_ready (rs := [16]) (by kernel_rfl) (by simp) ?_
            refine AllReadyH.cons rfl (fun K hK => ?_) AllReadyH.nil
            go_simp
            refine hK.out _ _ HC8.out.q3 (fun hS9 => ?_)
            refine wpAnyH_done (by kernel_rfl) ?_ _
            clear hK K
            go_wp2_with fail
            go_roundw
            case rel => exact ⟨i + 1, by omega, by go_num, vs.set k (.slice va vn vc), by rw [HXS.out]; exact HC8.out, HSB.out⟩
            case measure => simp [intOf]; omega
          · refine AllReadyH.cons rfl (fun K hK => ?_) AllReadyH.nil
            go_simp
            refine hK.out _ _ ?_ (fun hSb => ?_)
            · exact sA
            clear hK K
            refine wpAnyH_ready (rs := [11]) (by kernel_rfl) (by simp) ?_
            refine AllReadyH.cons rfl (fun K hK => ?_) AllReadyH.nil
            go_simp
            refine hK.out _ _ hSb (fun hSc => ?_)
            clear hK K
            refine wpAnyH_ready (rs := [14]) (by kernel_rfl) (by simp) ?_
            refine AllReadyH.cons rfl (fun K hK => ?_) AllReadyH.nil
            refine step_append_src _ rfl (.tmp 126) (.tmp 128) 95 rfl (w.heap.size + 2) 3 i3 (.int .i64 0) 8 Tryz.underlying95 H3.out.1 H3.out.2.1 H3.out.2.2.1 H3.out.2.2.2 rfl (.slice ua un uc) lk.length (intsC lk) rfl HOA.out (some ⟨w7.drew.heap.size, 0, none⟩) 1 1 [.int .i64 x] rfl (fun q => (by cases q)) rfl (fun ad q j y hj => one_cell q hj) (fun y hy => by rw [List.mem_singleton] at hy; subst hy; rfl) (by have := HLK.out; simp only [maxLen]; omega) (by have := HLK.out; omega) (by have := HSZ.out; simp at this ⊢; omega) ?_
            intro v8 w8 ho8 hg8 hb8
            obtain ⟨va, vn, vc, rfl⟩ := owns_shape ho8.out
            obtain ⟨C81, C82, C83, C84⟩ := HPU.out _ _ hg8.out ho8.out hb8.out
            have HC8 : Hid (Up w true false rate (C : Int) wd C (vs.set k (.slice va vn vc)) (xs.set k (lk ++ [x])) (w8.setCell ⟨w.heap.size + 1 + 1, k, none⟩ (.slice va vn vc))) := C84
            refine hK.out _ _ C81 (fun hS8 => ?_)
            clear hK K C84
            refine wpAnyH_take (i := 15) (v := .pointer (some ⟨w.heap.size + 1 + 1, k, none⟩)) rfl (by kernel_rfl) (by kernel_rfl) (by kernel_rfl) (fun _ _ _ h => h) (Or.inl ⟨by rfl, fun w hSw => by have s1 := hSw; go_simp⟩) hS8 ?_
            simp only [Act.put, List.getElem_toArray, List.getElem_cons_succ, List.getElem_cons_zero, List.setIfInBounds_toArray, List.set_cons_zero, List.set_cons_succ]
            refine wpAnyH_ready (rs := [16]) (by kernel_rfl) (by simp) ?_
            refine AllReadyH.cons rfl (fun K hK => ?_) AllReadyH.nil
            go_simp
            refine hK.out _ _ HC8.out.q3 (fun hS9 => ?_)
            refine wpAnyH_done (by kernel_rfl) ?_ _
            clear hK K
            go_wp2_with fail
            go_roundw
            case rel => exact ⟨i + 1, by omega, by go_num, vs.set k (.slice va vn vc), by rw [HXS.out]; exact HC8.out, HSB.out⟩
            case measure => simp [intOf]; omega
      · have hadd : (m : Int) = x := by
          have h := HX2.out
          unfold decN at h
          rw [if_neg (by decide), hG, if_neg hge] at h
          exact h.symm
        clear HX2
        go_wp2_with fail
        refine (kle wr).mono ?_
        rintro e w5 ⟨rfl, hB5⟩
        have P5 : Hid (Up w true false rate (C : Int) wd C vs xs w5) := HB2.out.next hB5
        clear hB5
        have m0 := P5.out.l0
        have m1 := P5.out.l1
        go_wp2_with fail
        refine (kbe w5).mono ?_
        rintro e w6 ⟨rfl, q6⟩
        subst q6
        go_wp2_with fail
        refine (rsample_spec x wd w1 w2 _).mono ?_
        rintro e w7 ⟨rfl, q7⟩
        have P7 : Hid (Up w true false rate (C : Int) wd C vs xs w7) := by
          rw [q7]
          exact P5.out
        clear q7 P5
        cases hsb : sampB x wd
        · have HN : Hid (unpE s rate (C : Int) wd true false = 2) := HNI.out hsb
          have HP : Hid (unpP s rate (C : Int) wd true false = noP) := by
            show _ = _
            unfold unpP
            rw [HN.out]
            rfl
          have r0 := P7.out.r0
          have r1 := P7.out.r1
          have r2 := P7.out.r2
          have r3 := P7.out.r3
          have z0 := P7.out.z 0
          have z1 := P7.out.z 1
          have z2 := P7.out.z 2
          have z3 := P7.out.z 3
          have HU : Hid (Un w true false w7) := P7.out.un
          clear P7
          go_wp2_with fail
          generalize hwf : ((((w7).setCell ⟨w.heap.size + 1, 0, none⟩ (.int .i64 0)).setCell ⟨w.heap.size + 1, 1, none⟩ (.int .i64 0)).setCell ⟨w.heap.size + 1, 2, none⟩ (.int .i64 0)).setCell ⟨w.heap.size + 1, 3, none⟩ (.slice none 0 0) = wf
          have hrow : wf.heap[w.heap.size + 1]? = some (.cells zeroP 24 (0, 0)) := by
            rw [← hwf, block_set _ _ _ _ _ _ (block_set _ _ _ _ _ _ (block_set _ _ _ _ _ _ (block_set _ _ _ _ _ _ HU.out.res)))]
            rfl
          have hbel : Below w.heap.size w wf := by
            rw [← hwf]
            exact (((HU.out.below.setCell (by simp) _).setCell (by simp) _).setCell (by simp) _).setCell (by simp) _
          refine bodyPost_ret (v := .tuple #[.agg zeroP, .int .i64 2]) ?_ rfl ⟨none, 0, by rw [HP.out, HN.out]; rfl, by rw [HP.out]; exact rows_none _ _, by rw [HP.out]; exact fresh_none _ _ _, hbel⟩
          rw [results_two rfl]
          have hld := run_loadVar_row (P := Tryz.prog) wf (w.heap.size + 1) 24 24 zeroP (0, 0) _ hrow Tryz.underlying24 rfl infoP
          simp [asAddr, Result.andThen, hld]
        · have HSB : Hid (∀ j, j < i + 1 → sampB (numI s wd true false j) wd = true) := HYES.out hsb
          have s0 : w7.drew.cell? ⟨w.heap.size + 1 + 1 + 1, 3, none⟩ = some (.slice (some ⟨w.heap.size + 1 + 1, 0, none⟩) C C) := P7.out.drew.q3
          obtain ⟨o0, o1⟩ := P7.out.drew.row k hkC
          have ho : w7.drew.ownsRow (w.heap.size + 2) 3 1 (vs.getD k noS) lk.length (intsC lk) := by
            rw [← HLKE.out]
            exact P7.out.drew.mat.inner k (by rw [P7.out.len]; exact hkC)
          obtain ⟨ua, un, uc, hu⟩ := owns_shape ho
          have HUD : Hid (vs.getD k noS = .slice ua un uc) := hu
          rw [hu] at o0 ho
          have HO : Hid (w7.drew.ownsRow (w.heap.size + 2) 3 1 (.slice ua un uc) lk.length (intsC lk)) := ho
          have HSZ : Hid (w.heap.size + 4 ≤ w7.drew.heap.size) := P7.out.drew.size
          have HW : Hid (Up w true false rate (C : Int) wd C vs xs w7.drew) := P7.out.drew
          have HAL : Hid (Up w true false rate (C : Int) wd C vs xs (w7.drew.alloc (.cells #[.int .i64 x] 3))) := HW.out.next ((Below.refl _ _).alloc (Nat.le_refl _) _)
          have HOA : Hid ((w7.drew.alloc (.cells #[.int .i64 x] 3)).ownsRow (w.heap.size + 2) 3 1 (.slice ua un uc) lk.length (intsC lk)) := owns_below HO.out ((Below.refl _ _).alloc (Nat.le_refl _) _)
          have a0 : (w7.drew.alloc (.cells #[.int .i64 x] 3)).cell? ⟨w.heap.size + 1 + 1, k, none⟩ = some (.slice ua un uc) := by
            have := (HAL.out.row k hkC).1
            rwa [hu] at this
          have a0' : (w7.alloc (.cells #[.int .i64 x] 3)).cell? ⟨w.heap.size + 1 + 1, k, none⟩ = some (.slice ua un uc) := a0
          have sA : (w7.drew.alloc (.cells #[.int .i64 x] 3)).cell? ⟨w.heap.size + 1 + 1 + 1, 3, none⟩ = some (.slice (some ⟨w.heap.size + 1 + 1, 0, none⟩) C C) := HAL.out.q3
          have HPU : Hid (∀ v8 w8, (w7.drew.alloc (.cells #[.int .i64 x] 3)).grownBy w8 (Value.slice ua un uc).ownBlock → w8.ownsRow (w.heap.size + 2) 3 1 v8 (lk.length + 1) (intsC lk ++ [.int .i64 x]) → (v8.ownBlock = (Value.slice ua un uc).ownBlock ∨ v8.ownBlock = some (w7.drew.alloc (.cells #[.int .i64 x] 3)).heap.size) →
              w8.cell? ⟨w.heap.size + 1 + 1 + 1, 3, none⟩ = some (.slice (some ⟨w.heap.size + 1 + 1, 0, none⟩) C C) ∧ w8.cell? ⟨w.heap.size + 1 + 1, k, none⟩ = some (.slice ua un uc) ∧ w8.frozen? ⟨w.heap.size + 1 + 1, k, none⟩ = false ∧ Up w true false rate (C : Int) wd C (vs.set k v8) (xs.set k (lk ++ [x])) (w8.setCell ⟨w.heap.size + 1 + 1, k, none⟩ v8)) := fun v8 w8 hg hw hb => by
            rw [← HUD.out] at hg hb ⊢
            rw [← HLKE.out] at hw ⊢
            obtain ⟨t1, t2, t3⟩ := HAL.out.kept k hkC hg
            exact ⟨t1, t2, t3, HAL.out.push k hkC hg hw hb⟩
          clear P7 ho hu HW HAL
          go_wp2_with fail
          refine wp_region_held_drew (S := fun wx => wx.cell? ⟨w.heap.size + 1 + 1 + 1, 3, none⟩ = some (.slice (some ⟨w.heap.size + 1 + 1, 0, none⟩) C C)) (by kernel_rfl) s0 (fun hS => ?_)
          refine wpAnyH_take (i := 0) (v := .pointer (some ⟨w.heap.size + 1 + 1 + 1, 3, none⟩)) rfl (by kernel_rfl) (by kernel_rfl) (by kernel_rfl) (fun _ _ _ h => h) (Or.inl ⟨by rfl, fun w hSw => by have s1 := hSw; go_simp⟩) hS ?_
          simp only [Act.put, List.getElem_toArray, List.getElem_cons_succ, List.getElem_cons_zero, List.setIfInBounds_toArray, List.set_cons_zero, List.set_cons_succ]
          refine wpAnyH_take (i := 1) (v := .slice (some ⟨w.heap.size + 1 + 1, 0, none⟩) C C) rfl (by kernel_rfl) (by kernel_rfl) (by kernel_rfl) (fun _ _ _ h => h) (Or.inl ⟨by rfl, fun w hSw => by have s1 := hSw; go_simp⟩) hS ?_
          simp only [Act.put, List.getElem_toArray, List.getElem_cons_succ, List.getElem_cons_zero, List.setIfInBounds_toArray, List.set_cons_zero, List.set_cons_succ]
          refine wpAnyH_take (i := 2) (v := .int .i64 (i : Int)) rfl (by kernel_rfl) (by kernel_rfl) (by kernel_rfl) (fun _ _ _ h => h) (Or.inl ⟨by rfl, fun w hSw => by have s1 := hSw; go_simp⟩) hS ?_
          simp only [Act.put, List.getElem_toArray, List.getElem_cons_succ, List.getElem_cons_zero, List.setIfInBounds_toArray, List.set_cons_zero, List.set_cons_succ]
          refine wpAnyH_take (i := 3) (v := .int .i64 (C : Int)) rfl (by kernel_rfl) (by kernel_rfl) (by kernel_rfl) (fun _ _ _ h => h) (Or.inl ⟨by rfl, fun w hSw => by have s1 := hSw; go_simp⟩) hS ?_
          simp only [Act.put, List.getElem_toArray, List.getElem_cons_succ, List.getElem_cons_zero, List.setIfInBounds_toArray, List.set_cons_zero, List.set_cons_succ]
          refine wpAnyH_take (i := 4) (v := .int .i64 (k : Int)) rfl (by kernel_rfl) (by kernel_rfl) (by kernel_rfl) (fun _ _ _ h => h) (Or.inl ⟨by rfl, fun w hSw => by have s1 := hSw; go_simp⟩) hS ?_
          simp only [Act.put, List.getElem_toArray, List.getElem_cons_succ, List.getElem_cons_zero, List.setIfInBounds_toArray, List.set_cons_zero, List.set_cons_succ]
          refine wpAnyH_take (i := 5) (v := .pointer (some ⟨w.heap.size + 1 + 1 + 1, 3, none⟩)) rfl (by kernel_rfl) (by kernel_rfl) (by kernel_rfl) (fun _ _ _ h => h) (Or.inl ⟨by rfl, fun w hSw => by have s1 := hSw; go_simp⟩) hS ?_
          simp only [Act.put, List.getElem_toArray, List.getElem_cons_succ, List.getElem_cons_zero, List.setIfInBounds_toArray, List.set_cons_zero, List.set_cons_succ]
          refine wpAnyH_take (i := 6) (v := .slice (some ⟨w.heap.size + 1 + 1, 0, none⟩) C C) rfl (by kernel_rfl) (by kernel_rfl) (by kernel_rfl) (fun _ _ _ h => h) (Or.inl ⟨by rfl, fun w hSw => by have s1 := hSw; go_simp⟩) hS ?_
          simp only [Act.put, List.getElem_toArray, List.getElem_cons_succ, List.getElem_cons_zero, List.setIfInBounds_toArray, List.set_cons_zero, List.set_cons_succ]
          refine wpAnyH_take (i := 7) (v := .int .i64 (i : Int)) rfl (by kernel_rfl) (by kernel_rfl) (by kernel_rfl) (fun _ _ _ h => h) (Or.inl ⟨by rfl, fun w hSw => by have s1 := hSw; go_simp⟩) hS ?_
          simp only [Act.put, List.getElem_toArray, List.getElem_cons_succ, List.getElem_cons_zero, List.setIfInBounds_toArray, List.set_cons_zero, List.set_cons_succ]
          refine wpAnyH_take (i := 8) (v := .int .i64 (C : Int)) rfl (by kernel_rfl) (by kernel_rfl) (by kernel_rfl) (fun _ _ _ h => h) (Or.inl ⟨by rfl, fun w hSw => by have s1 := hSw; go_simp⟩) hS ?_
          simp only [Act.put, List.getElem_toArray, List.getElem_cons_succ, List.getElem_cons_zero, List.setIfInBounds_toArray, List.set_cons_zero, List.set_cons_succ]
          refine wpAnyH_take (i := 9) (v := .int .i64 (k : Int)) rfl (by kernel_rfl) (by kernel_rfl) (by kernel_rfl) (fun _ _ _ h => h) (Or.inl ⟨by rfl, fun w hSw => by have s1 := hSw; go_simp⟩) hS ?_
          simp only [Act.put, List.getElem_toArray, List.getElem_cons_succ, List.getElem_cons_zero, List.setIfInBounds_toArray, List.set_cons_zero, List.set_cons_succ]
          refine wpAnyH_take (i := 10) (v := .pointer (some ⟨w.heap.size + 1 + 1, k, none⟩)) rfl (by kernel_rfl) (by kernel_rfl) (by kernel_rfl) (fun _ _ _ h => h) (Or.inl ⟨by rfl, fun w hSw => by have s1 := hSw; go_simp⟩) hS ?_
          simp only [Act.put, List.getElem_toArray, List.getElem_cons_succ, List.getElem_cons_zero, List.setIfInBounds_toArray, List.set_cons_zero, List.set_cons_succ]
          refine wpAnyH_take (i := 12) (v := .int .i64 x) rfl (by kernel_rfl) (by kernel_rfl) (by kernel_rfl) (fun _ _ _ h => h) (Or.inl ⟨by rfl, fun w hSw => by have s1 := hSw; go_simp⟩) hS ?_
          simp only [Act.put, List.getElem_toArray, List.getElem_cons_succ, List.getElem_cons_zero, List.setIfInBounds_toArray, List.set_cons_zero, List.set_cons_succ]
          refine wpAnyH_ready (rs := [11, 13]) (by kernel_rfl) (by simp) ?_
          refine AllReadyH.cons rfl (fun K hK => ?_) ?_
          · go_simp
            refine hK.out _ _ hS (fun hSa => ?_)
            clear hK K
            refine wpAnyH_ready (rs := [13]) (by kernel_rfl) (by simp) ?_
            refine AllReadyH.cons rfl (fun K hK => ?_) AllReadyH.nil
            go_simp
            refine hK.out _ _ ?_ (fun hSb => ?_)
            · exact sA
            clear hK K
            refine wpAnyH_ready (rs := [14]) (by kernel_rfl) (by simp) ?_
            refine AllReadyH.cons rfl (fun K hK => ?_) AllReadyH.nil
            refine step_append_src _ rfl (.tmp 126) (.tmp 128) 95 rfl (w.heap.size + 2) 3 i3 (.int .i64 0) 8 Tryz.underlying95 H3.out.1 H3.out.2.1 H3.out.2.2.1 H3.out.2.2.2 rfl (.slice ua un uc) lk.length (intsC lk) rfl HOA.out (some ⟨w7.drew.heap.size, 0, none⟩) 1 1 [.int .i64 x] rfl (fun q => (by cases q)) rfl (fun ad q j y hj => one_cell q hj) (fun y hy => by rw [List.mem_singleton] at hy; subst hy; rfl) (by have := HLK.out; simp only [maxLen]; omega) (by have := HLK.out; omega) (by have := HSZ.out; simp at this ⊢; omega) ?_
            intro v8 w8 ho8 hg8 hb8
            obtain ⟨va, vn, vc, rfl⟩ := owns_shape ho8.out
            obtain ⟨C81, C82, C83, C84⟩ := HPU.out _ _ hg8.out ho8.out hb8.out
            have HC8 : Hid (Up w true false rate (C : Int) wd C (vs.set k (.slice va vn vc)) (xs.set k (lk ++ [x])) (w8.setCell ⟨w.heap.size + 1 + 1, k, none⟩ (.slice va vn vc))) := C84
            refine hK.out _ _ C81 (fun hS8 => ?_)
            clear hK K C84
            refine wpAnyH_take (i := 15) (v := .pointer (some ⟨w.heap.size + 1 + 1, k, none⟩)) rfl (by kernel_rfl) (by kernel_rfl) (by kernel_rfl) (fun _ _ _ h => h) (Or.inl ⟨by rfl, fun w hSw => by have s1 := hSw; go_simp⟩) hS8 ?_
            simp only [Act.put, List.getElem_toArray, List.getElem_cons_succ, List.getElem_cons_zero, List.setIfInBounds_toArray, List.set_cons_zero, List.set_cons_succ]
            refine wpAnyH_ready (rs := [16]) (by kernel_rfl) (by simp) ?_
            refine AllReadyH.cons rfl (fun K hK => ?_) AllReadyH.nil
            go_simp
            refine hK.out _ _ HC8.out.q3 (fun hS9 => ?_)
            refine wpAnyH_done (by kernel_rfl) ?_ _
            clear hK K
            go_wp2_with fail
            go_roundw
            case rel => exact ⟨i + 1, by omega, by go_num, vs.set k (.slice va vn vc), by rw [HXS.out]; exact HC8.out, HSB.out⟩
            case measure => simp [intOf]; omega
          · refine AllReadyH.cons rfl (fun K hK => ?_) AllReadyH.nil
            go_simp
            refine hK.out _ _ ?_ (fun hSb => ?_)
            · exact sA
            clear hK K
            refine wpAnyH_ready (rs := [11]) (by kernel_rfl) (by simp) ?_
            refine AllReadyH.cons rfl (fun K hK => ?_) AllReadyH.nil
            go_simp
            refine hK.out _ _ hSb (fun hSc => ?_)
            clear hK K
            refine wpAnyH_ready (rs := [14]) (by kernel_rfl) (by simp) ?_
            refine AllReadyH.cons rfl (fun K hK => ?_) AllReadyH.nil
            refine step_append_src _ rfl (.tmp 126) (.tmp 128) 95 rfl (w.heap.size + 2) 3 i3 (.int .i64 0) 8 Tryz.underlying95 H3.out.1 H3.out.2.1 H3.out.2.2.1 H3.out.2.2.2 rfl (.slice ua un uc) lk.length (intsC lk) rfl HOA.out (some ⟨w7.drew.heap.size, 0, none⟩) 1 1 [.int .i64 x] rfl (fun q => (by cases q)) rfl (fun ad q j y hj => one_cell q hj) (fun y hy => by rw [List.mem_singleton] at hy; subst hy; rfl) (by have := HLK.out; simp only [maxLen]; omega) (by have := HLK.out; omega) (by have := HSZ.out; simp at this ⊢; omega) ?_
            intro v8 w8 ho8 hg8 hb8
            obtain ⟨va, vn, vc, rfl⟩ := owns_shape ho8.out
            obtain ⟨C81, C82, C83, C84⟩ := HPU.out _ _ hg8.out ho8.out hb8.out
            have HC8 : Hid (Up w true false rate (C : Int) wd C (vs.set k (.slice va vn vc)) (xs.set k (lk ++ [x])) (w8.setCell ⟨w.heap.size + 1 + 1, k, none⟩ (.slice va vn vc))) := C84
            refine hK.out _ _ C81 (fun hS8 => ?_)
            clear hK K C84
            refine wpAnyH_take (i := 15) (v := .pointer (some ⟨w.heap.size + 1 + 1, k, none⟩)) rfl (by kernel_rfl) (by kernel_rfl) (by kernel_rfl) (fun _ _ _ h => h) (Or.inl ⟨by rfl, fun w hSw => by have s1 := hSw; go_simp⟩) hS8 ?_
            simp only [Act.put, List.getElem_toArray, List.getElem_cons_succ, List.getElem_cons_zero, List.setIfInBounds_toArray, List.set_cons_zero, List.set_cons_succ]
            refine wpAnyH_ready (rs := [16]) (by kernel_rfl) (by simp) ?_
            refine AllReadyH.cons rfl (fun K hK => ?_) AllReadyH.nil
            go_simp
            refine hK.out _ _ HC8.out.q3 (fun hS9 => ?_)
            refine wpAnyH_done (by kernel_rfl) ?_ _
            clear hK K
            go_wp2_with fail
            go_roundw
            case rel => exact ⟨i + 1, by omega, by go_num, vs.set k (.slice va vn vc), by rw [HXS.out]; exact HC8.out, HSB.out⟩
            case measure => simp [intOf]; omega
    · have hie : i = K := by omega
      obtain ⟨HYE, HYP⟩ := HYS.out (fun j hj => HALL.out j (by omega))
      have HE : Hid (unpE s rate (C : Int) wd true false = 0) := HYE
      obtain ⟨xs, hxs⟩ : ∃ xs, upL s wd true false C i = xs := ⟨_, rfl⟩
      have HPE : Hid (unpP s rate (C : Int) wd true false = ⟨rate, (C : Int), wd, xs⟩) := by
        rw [← hie, hxs] at HYP
        exact HYP
      have HC : Hid (Up w true false rate (C : Int) wd C vs xs wr) := by
        have := HB.out
        rwa [hxs] at this
      have HLB : Hid (∀ k, k < xs.length → (xs.getD k []).length ≤ 17592186044415 ∧ ∀ n ∈ xs.getD k [], -9223372036854775808 ≤ n ∧ n ≤ 9223372036854775807) := fun k hk => by
        have hl := HC.out.len
        obtain ⟨g1, g2⟩ := upL_good s wd true false C i (fun j hj => HALL.out j hj) w1 w2 k (by omega)
        rw [hxs] at g1 g2
        exact ⟨by omega, g2⟩
      have e0 := HC.out.qc 0 (.int .i64 rate) rfl
      have e1 := HC.out.qc 1 (.int .i64 (C : Int)) rfl
      have e2 := HC.out.qc 2 (.int .i64 wd) rfl
      have e3 := HC.out.qc 3 (.slice (some ⟨w.heap.size + 1 + 1, 0, none⟩) C C) rfl
      have r0 := HC.out.r0
      have r1' := HC.out.r1
      have r2' := HC.out.r2
      have r3 := HC.out.r3
      have z0 := HC.out.z 0
      have z1 := HC.out.z 1
      have z2 := HC.out.z 2
      have z3 := HC.out.z 3
      clear HYE HYP hxs HB HALL HYS HNO
      go_wp2_with fail
      generalize hwf : (((wr.setCell ⟨w.heap.size + 1, 0, none⟩ (.int .i64 rate)).setCell ⟨w.heap.size + 1, 1, none⟩ (.int .i64 (C : Int))).setCell ⟨w.heap.size + 1, 2, none⟩ (.int .i64 wd)).setCell ⟨w.heap.size + 1, 3, none⟩ (.slice (some ⟨w.heap.size + 1 + 1, 0, none⟩) C C) = wf
      have hrow : wf.heap[w.heap.size + 1]? = some (.cells #[.int .i64 rate, .int .i64 (C : Int), .int .i64 wd, .slice (some ⟨w.heap.size + 1 + 1, 0, none⟩) C C] 24 (0, 0)) := by
        rw [← hwf, block_set _ _ _ _ _ _ (block_set _ _ _ _ _ _ (block_set _ _ _ _ _ _ (block_set _ _ _ _ _ _ HC.out.res)))]
        rfl
      have hbel : Below w.heap.size w wf := by
        rw [← hwf]
        exact (((HC.out.below.setCell (by simp) _).setCell (by simp) _).setCell (by simp) _).setCell (by simp) _
      have hmat : OwnMat 95 (w.heap.size + 2) wf (.slice (some ⟨w.heap.size + 1 + 1, 0, none⟩) C C) vs xs := by
        rw [← hwf]
        exact (((HC.out.mat.setOther (by simp) _).setOther (by simp) _).setOther (by simp) _).setOther (by simp) _
      obtain ⟨ao2, cap2, hv2, hrows2, hfr2⟩ := hmat.rows (by have := HC.out.len; omega) HLB.out
      have hlen := HC.out.len
      rw [hlen] at hv2
      cases hv2
      refine bodyPost_ret (v := .tuple #[.agg #[.int .i64 rate, .int .i64 (C : Int), .int .i64 wd, .slice (some ⟨w.heap.size + 1 + 1, 0, none⟩) C C], .int .i64 0]) ?_ rfl ⟨some ⟨w.heap.size + 1 + 1, 0, none⟩, C, by rw [HPE.out, HE.out]; show _ = _; unfold pcmV pcmC; rw [hlen], by rw [HPE.out]; exact hrows2, by rw [HPE.out]; exact hfr2.mono (Nat.le_add_right _ _), hbel⟩
      rw [results_two rfl]
      have hld := run_loadVar_row (P := Tryz.prog) wf (w.heap.size + 1) 24 24 _ (0, 0) _ hrow Tryz.underlying24 rfl infoP
      simp [asAddr, Result.andThen, hld]

set_option maxRecDepth 20000 in
set_option maxHeartbeats 6400000 in
theorem runpack_true_false (s : ByteArray) (rate wd : Int) (C : Nat) (w : World) (hs : s.size ≤ 1000000000000000000) (hh : uheadB rate (C : Int) wd = true) (hm : s.size % (nby wd * C) = 0) (h5 : s.size / (nby wd * C) ≤ 1048576) :
    Calls Tryz.prog 21 #[.string s, .int .i64 rate, .int .i64 (C : Int), .int .i64 wd, .agg #[.bool false, .bool true]] w fun e w' => Gives w (unpP s rate (C : Int) wd false true) (unpE s rate (C : Int) wd false true) e w' := by
  have HNO : Hid (∀ i, i < s.size / nby wd → sampB (numI s wd false true i) wd = false → unpE s rate (C : Int) wd false true = 2) := fun i hi hb => by
    unfold unpE
    rw [hh, if_pos rfl, Int.toNat_natCast, if_pos hm, if_neg (by omega), if_neg (fun q => by rw [q i hi] at hb; cases hb)]
  have HYS : Hid ((∀ i, i < s.size / nby wd → sampB (numI s wd false true i) wd = true) → unpE s rate (C : Int) wd false true = 0 ∧ unpP s rate (C : Int) wd false true = ⟨rate, (C : Int), wd, upL s wd false true C (s.size / nby wd)⟩) := fun q => by
    have e : unpE s rate (C : Int) wd false true = 0 := by
      unfold unpE
      rw [hh, if_pos rfl, Int.toNat_natCast, if_pos hm, if_neg (by omega), if_pos q]
    refine ⟨e, ?_⟩
    unfold unpP
    rw [if_pos e, Int.toNat_natCast]
  have HU0 : Hid (Up w false true rate (C : Int) wd C (List.replicate C noS) (List.replicate C []) _) := Up.new w false true rate (C : Int) wd C (by have := uhead_parts hh; omega)
  obtain ⟨r1, r2, c1, c2, w1, w2⟩ := uhead_parts hh
  obtain ⟨n1, n2, n3, n4⟩ := nby_range wd w1 w2
  have hw : (wd + 7) / 8 = (nby wd : Int) := n4.symm
  have hmk := make_rows C (by omega)
  obtain ⟨hp1, hp2⟩ := pow31 (wd - 1).toNat (by omega)
  have hkw : (wd - 1).toNat = wd.toNat - 1 := by omega
  rw [hkw] at hp1 hp2
  obtain ⟨H, hH⟩ : ∃ H : Int, (2 : Int) ^ (wd.toNat - 1) = H := ⟨_, rfl⟩
  rw [hH] at hp1 hp2
  have HKE : Hid (s.size / nby wd ≤ 8388608) := by
    show _ ≤ _
    have e : s.size = nby wd * C * (s.size / (nby wd * C)) := by
      have := Nat.div_add_mod s.size (nby wd * C)
      omega
    have e2 : s.size / nby wd = C * (s.size / (nby wd * C)) := by
      have : s.size = nby wd * (C * (s.size / (nby wd * C))) := by rw [← Nat.mul_assoc]; exact e
      exact Nat.div_eq_of_eq_mul_right (by omega) this
    rw [e2]
    exact Nat.le_trans (Nat.mul_le_mul (by omega : C ≤ 8) h5) (by decide)
  have hmul : (nby wd : Int) * (C : Int) = ((nby wd * C : Nat) : Int) := by simp
  have hq1 : 1 ≤ nby wd * C := Nat.mul_le_mul n1 (by omega : 1 ≤ C)
  have hq2 : nby wd * C ≤ 4 * 8 := Nat.mul_le_mul n2 (by omega : C ≤ 8)
  have hb : ((s.size : Int) % ((nby wd * C : Nat) : Int) == 0) = true := by
    rw [beq_iff_eq]
    omega
  have hqd : (s.size : Int) / ((nby wd * C : Nat) : Int) = ((s.size / (nby wd * C) : Nat) : Int) := by simp
  have hkd : (s.size : Int) / (nby wd : Int) = ((s.size / nby wd : Nat) : Int) := by simp
  have HKM : Hid (s.size / nby wd * nby wd ≤ s.size) := Nat.div_mul_le_self _ _
  obtain ⟨i3, h30, h31, h32, h33⟩ := info_parts info3'
  have H3 : Hid (Tryz.prog.info? 3 = some i3 ∧ i3.zero = some (.int .i64 0) ∧ i3.size = 1 ∧ i3.bytes = 8) := ⟨h30, h31, h32, h33⟩
  clear hh h30 h31 h32 h33 n4
  generalize nby wd * C = M at *
  generalize s.size / M = Q at *
  generalize hK : s.size / nby wd = K at *
  have hKb : K ≤ 8388608 := HKE.out
  clear hK HKE
  go_enter Tryz.func21, Tryz.ntmps21
  go_wp2_with fail
  generalize hwa : World.alloc _ _ = wa
  have HA : Hid (Up w false true rate (C : Int) wd C (List.replicate C noS) (List.replicate C []) wa) := by
    rw [← hwa]
    exact HU0.out
  clear hwa HU0
  rw [hw]
  generalize Value.bool ((s.size : Int) % (M : Int) != 0) = v49
  generalize Value.int IntKind.i64 ((s.size : Int) % (M : Int)) = v48
  go_loopw [14] (fun t wr => ∃ i : Nat, i ≤ K ∧ t = .int .i64 (i : Int) ∧ ∃ vs, Up w false true rate (C : Int) wd C vs (upL s wd false true C i) wr ∧ ∀ j, j < i → sampB (numI s wd false true j) wd = true) (fun t _ => K - (intOf t).toNat)
  case atStart => exact ⟨0, Nat.zero_le _, rfl, List.replicate C noS, HA.out, fun j hj => absurd hj (Nat.not_lt_zero _)⟩
  case round =>
    clear HA
    obtain ⟨i, hi, rfl, vs, hup, hall⟩ := hrel
    have HB : Hid (Up w false true rate (C : Int) wd C vs (upL s wd false true C i) wr) := hup
    have HALL : Hid (∀ j, j < i → sampB (numI s wd false true j) wd = true) := hall
    clear hup hall
    by_cases hlt : i < K
    · have hle : i * nby wd + nby wd ≤ s.size := by
        have h1 : (i + 1) * nby wd ≤ K * nby wd := Nat.mul_le_mul_right _ (by omega)
        rw [Nat.succ_mul] at h1
        have := HKM.out
        omega
      have hml := mOf_lt s (nby wd) false i hle
      have hm4 : mOf s (nby wd) false i ≤ 4294967295 := by
        have q1 : 256 ^ nby wd ≤ 256 ^ 4 := Nat.pow_le_pow_right (by decide) n2
        have q3 : (256 : Nat) ^ 4 = 4294967296 := by decide
        omega
      have hsz := bytesOf_ext s (i * nby wd) (i * nby wd + nby wd) (by omega) hle
      have kle := reffromLe_spec (s.extract (i * nby wd) (i * nby wd + nby wd)) (by omega)
      have kbe := reffromBe_spec (s.extract (i * nby wd) (i * nby wd + nby wd)) (by omega)
      have hmv : fromBe ((bytesOf (s.extract (i * nby wd) (i * nby wd + nby wd))).reverse) = (mOf s (nby wd) false i : Int) := by
        have e : mOf s (nby wd) false i = val ((bytesOf (s.extract (i * nby wd) (i * nby wd + nby wd))).reverse) := rfl
        rw [e] at hm4 ⊢
        refine fromBe_of _ ?_ (by omega)
        rw [List.length_reverse]
        rw [bytesOf_length]
        omega
      rw [hmv] at kle
      
      obtain ⟨m, hmm⟩ : ∃ m : Nat, mOf s (nby wd) false i = m := ⟨_, rfl⟩
      have HX : Hid (numI s wd false true i = decN wd true m) := by
        show _ = _
        rw [← hmm]
        rfl
      rw [hmm] at hm4 kle
      obtain ⟨xs, hxs⟩ : ∃ xs, upL s wd false true C i = xs := ⟨_, rfl⟩
      obtain ⟨k, hk⟩ : ∃ k, i % C = k := ⟨_, rfl⟩
      obtain ⟨lk, hlk⟩ : ∃ lk, xs.getD k [] = lk := ⟨_, rfl⟩
      obtain ⟨x, hx⟩ : ∃ x, numI s wd false true i = x := ⟨_, rfl⟩
      have HXS : Hid (upL s wd false true C (i + 1) = xs.set k (lk ++ [x])) := by
        show _ = _
        rw [← hlk, ← hk, ← hxs, ← hx]
        rfl
      have HLKE : Hid (xs.getD k [] = lk) := hlk
      have HB2 : Hid (Up w false true rate (C : Int) wd C vs xs wr) := by
        have := HB.out
        rwa [hxs] at this
      have HNI : Hid (sampB x wd = false → unpE s rate (C : Int) wd false true = 2) := by
        have := HNO.out i hlt
        rwa [hx] at this
      have HYES : Hid (sampB x wd = true → ∀ j, j < i + 1 → sampB (numI s wd false true j) wd = true) := fun hb j hj => by
        by_cases e : j = i
        · rw [e, hx]
          exact hb
        · exact HALL.out j (by omega)
      have HLK : Hid (lk.length ≤ 8388608) := by
        have h1 := upL_len s wd false true C i (i % C)
        rw [hxs, hk, hlk] at h1
        show _ ≤ _
        omega
      have hkC : k < C := by rw [← hk]; exact Nat.mod_lt _ (by omega)
      have hrm1 : Int.tmod (i : Int) (C : Int) = (k : Int) := by
        rw [Int.tmod_eq_emod_of_nonneg (by omega), ← hk]
        simp
      have hrm2 : (i : Int) % (C : Int) = (k : Int) := by
        rw [← hk]
        simp
      have ha : (i : Int) * (nby wd : Int) = ((i * nby wd : Nat) : Int) := by simp
      have HX2 : Hid (x = decN wd true m) := by
        have := HX.out
        rwa [hx] at this
      have hC0 : ¬ C = 0 := by omega
      have l0 := HB2.out.l0
      have l1 := HB2.out.l1
      clear hmv hml hmm HALL HX hx hlk hk hxs HB HNO HYS hmk hqd hb hmul
      have hsl := slice_run s (i * nby wd) (i * nby wd + nby wd) (by omega) hle
      have hab : ((i * nby wd : Nat) : Int) + (nby wd : Int) = ((i * nby wd + nby wd : Nat) : Int) := by simp
      generalize i * nby wd + nby wd = b at *
      generalize hA : i * nby wd = a at *
      have ha63 : a ≤ b := by omega
      generalize hT : s.extract a b = tx at *
      clear hA hT
      have hadd : (m : Int) - H = x := by
        have h := HX2.out
        unfold decN at h
        rw [if_pos rfl, hH] at h
        exact h.symm
      clear HX2
      go_wp2_with fail
      refine (kle wr).mono ?_
      rintro e w5 ⟨rfl, hB5⟩
      have P5 : Hid (Up w false true rate (C : Int) wd C vs xs w5) := HB2.out.next hB5
      clear hB5
      have m0 := P5.out.l0
      have m1 := P5.out.l1
      go_wp2_with fail
      refine (rsample_spec x wd w1 w2 _).mono ?_
      rintro e w7 ⟨rfl, q7⟩
      have P7 : Hid (Up w false true rate (C : Int) wd C vs xs w7) := by
        rw [q7]
        exact P5.out
      clear q7 P5
      cases hsb : sampB x wd
      · have HN : Hid (unpE s rate (C : Int) wd false true = 2) := HNI.out hsb
        have HP : Hid (unpP s rate (C : Int) wd false true = noP) := by
          show _ = _
          unfold unpP
          rw [HN.out]
          rfl
        have r0 := P7.out.r0
        have r1 := P7.out.r1
        have r2 := P7.out.r2
        have r3 := P7.out.r3
        have z0 := P7.out.z 0
        have z1 := P7.out.z 1
        have z2 := P7.out.z 2
        have z3 := P7.out.z 3
        have HU : Hid (Un w false true w7) := P7.out.un
        clear P7
        go_wp2_with fail
        generalize hwf : ((((w7).setCell ⟨w.heap.size + 1, 0, none⟩ (.int .i64 0)).setCell ⟨w.heap.size + 1, 1, none⟩ (.int .i64 0)).setCell ⟨w.heap.size + 1, 2, none⟩ (.int .i64 0)).setCell ⟨w.heap.size + 1, 3, none⟩ (.slice none 0 0) = wf
        have hrow : wf.heap[w.heap.size + 1]? = some (.cells zeroP 24 (0, 0)) := by
          rw [← hwf, block_set _ _ _ _ _ _ (block_set _ _ _ _ _ _ (block_set _ _ _ _ _ _ (block_set _ _ _ _ _ _ HU.out.res)))]
          rfl
        have hbel : Below w.heap.size w wf := by
          rw [← hwf]
          exact (((HU.out.below.setCell (by simp) _).setCell (by simp) _).setCell (by simp) _).setCell (by simp) _
        refine bodyPost_ret (v := .tuple #[.agg zeroP, .int .i64 2]) ?_ rfl ⟨none, 0, by rw [HP.out, HN.out]; rfl, by rw [HP.out]; exact rows_none _ _, by rw [HP.out]; exact fresh_none _ _ _, hbel⟩
        rw [results_two rfl]
        have hld := run_loadVar_row (P := Tryz.prog) wf (w.heap.size + 1) 24 24 zeroP (0, 0) _ hrow Tryz.underlying24 rfl infoP
        simp [asAddr, Result.andThen, hld]
      · have HSB : Hid (∀ j, j < i + 1 → sampB (numI s wd false true j) wd = true) := HYES.out hsb
        have s0 : w7.drew.cell? ⟨w.heap.size + 1 + 1 + 1, 3, none⟩ = some (.slice (some ⟨w.heap.size + 1 + 1, 0, none⟩) C C) := P7.out.drew.q3
        obtain ⟨o0, o1⟩ := P7.out.drew.row k hkC
        have ho : w7.drew.ownsRow (w.heap.size + 2) 3 1 (vs.getD k noS) lk.length (intsC lk) := by
          rw [← HLKE.out]
          exact P7.out.drew.mat.inner k (by rw [P7.out.len]; exact hkC)
        obtain ⟨ua, un, uc, hu⟩ := owns_shape ho
        have HUD : Hid (vs.getD k noS = .slice ua un uc) := hu
        rw [hu] at o0 ho
        have HO : Hid (w7.drew.ownsRow (w.heap.size + 2) 3 1 (.slice ua un uc) lk.length (intsC lk)) := ho
        have HSZ : Hid (w.heap.size + 4 ≤ w7.drew.heap.size) := P7.out.drew.size
        have HW : Hid (Up w false true rate (C : Int) wd C vs xs w7.drew) := P7.out.drew
        have HAL : Hid (Up w false true rate (C : Int) wd C vs xs (w7.drew.alloc (.cells #[.int .i64 x] 3))) := HW.out.next ((Below.refl _ _).alloc (Nat.le_refl _) _)
        have HOA : Hid ((w7.drew.alloc (.cells #[.int .i64 x] 3)).ownsRow (w.heap.size + 2) 3 1 (.slice ua un uc) lk.length (intsC lk)) := owns_below HO.out ((Below.refl _ _).alloc (Nat.le_refl _) _)
        have a0 : (w7.drew.alloc (.cells #[.int .i64 x] 3)).cell? ⟨w.heap.size + 1 + 1, k, none⟩ = some (.slice ua un uc) := by
          have := (HAL.out.row k hkC).1
          rwa [hu] at this
        have a0' : (w7.alloc (.cells #[.int .i64 x] 3)).cell? ⟨w.heap.size + 1 + 1, k, none⟩ = some (.slice ua un uc) := a0
        have sA : (w7.drew.alloc (.cells #[.int .i64 x] 3)).cell? ⟨w.heap.size + 1 + 1 + 1, 3, none⟩ = some (.slice (some ⟨w.heap.size + 1 + 1, 0, none⟩) C C) := HAL.out.q3
        have HPU : Hid (∀ v8 w8, (w7.drew.alloc (.cells #[.int .i64 x] 3)).grownBy w8 (Value.slice ua un uc).ownBlock → w8.ownsRow (w.heap.size + 2) 3 1 v8 (lk.length + 1) (intsC lk ++ [.int .i64 x]) → (v8.ownBlock = (Value.slice ua un uc).ownBlock ∨ v8.ownBlock = some (w7.drew.alloc (.cells #[.int .i64 x] 3)).heap.size) →
            w8.cell? ⟨w.heap.size + 1 + 1 + 1, 3, none⟩ = some (.slice (some ⟨w.heap.size + 1 + 1, 0, none⟩) C C) ∧ w8.cell? ⟨w.heap.size + 1 + 1, k, none⟩ = some (.slice ua un uc) ∧ w8.frozen? ⟨w.heap.size + 1 + 1, k, none⟩ = false ∧ Up w false true rate (C : Int) wd C (vs.set k v8) (xs.set k (lk ++ [x])) (w8.setCell ⟨w.heap.size + 1 + 1, k, none⟩ v8)) := fun v8 w8 hg hw hb => by
          rw [← HUD.out] at hg hb ⊢
          rw [← HLKE.out] at hw ⊢
          obtain ⟨t1, t2, t3⟩ := HAL.out.kept k hkC hg
          exact ⟨t1, t2, t3, HAL.out.push k hkC hg hw hb⟩
        clear P7 ho hu HW HAL
        go_wp2_with fail
        refine wp_region_held_drew (S := fun wx => wx.cell? ⟨w.heap.size + 1 + 1 + 1, 3, none⟩ = some (.slice (some ⟨w.heap.size + 1 + 1, 0, none⟩) C C)) (by kernel_rfl) s0 (fun hS => ?_)
        refine wpAnyH_take (i := 0) (v := .pointer (some ⟨w.heap.size + 1 + 1 + 1, 3, none⟩)) rfl (by kernel_rfl) (by kernel_rfl) (by kernel_rfl) (fun _ _ _ h => h) (Or.inl ⟨by rfl, fun w hSw => by have s1 := hSw; go_simp⟩) hS ?_
        simp only [Act.put, List.getElem_toArray, List.getElem_cons_succ, List.getElem_cons_zero, List.setIfInBounds_toArray, List.set_cons_zero, List.set_cons_succ]
        refine wpAnyH_take (i := 1) (v := .slice (some ⟨w.heap.size + 1 + 1, 0, none⟩) C C) rfl (by kernel_rfl) (by kernel_rfl) (by kernel_rfl) (fun _ _ _ h => h) (Or.inl ⟨by rfl, fun w hSw => by have s1 := hSw; go_simp⟩) hS ?_
        simp only [Act.put, List.getElem_toArray, List.getElem_cons_succ, List.getElem_cons_zero, List.setIfInBounds_toArray, List.set_cons_zero, List.set_cons_succ]
        refine wpAnyH_take (i := 2) (v := .int .i64 (i : Int)) rfl (by kernel_rfl) (by kernel_rfl) (by kernel_rfl) (fun _ _ _ h => h) (Or.inl ⟨by rfl, fun w hSw => by have s1 := hSw; go_simp⟩) hS ?_
        simp only [Act.put, List.getElem_toArray, List.getElem_cons_succ, List.getElem_cons_zero, List.setIfInBounds_toArray, List.set_cons_zero, List.set_cons_succ]
        refine wpAnyH_take (i := 3) (v := .int .i64 (C : Int)) rfl (by kernel_rfl) (by kernel_rfl) (by kernel_rfl) (fun _ _ _ h => h) (Or.inl ⟨by rfl, fun w hSw => by have s1 := hSw; go_simp⟩) hS ?_
        simp only [Act.put, List.getElem_toArray, List.getElem_cons_succ, List.getElem_cons_zero, List.setIfInBounds_toArray, List.set_cons_zero, List.set_cons_succ]
        refine wpAnyH_take (i := 4) (v := .int .i64 (k : Int)) rfl (by kernel_rfl) (by kernel_rfl) (by kernel_rfl) (fun _ _ _ h => h) (Or.inl ⟨by rfl, fun w hSw => by have s1 := hSw; go_simp⟩) hS ?_
        simp only [Act.put, List.getElem_toArray, List.getElem_cons_succ, List.getElem_cons_zero, List.setIfInBounds_toArray, List.set_cons_zero, List.set_cons_succ]
        refine wpAnyH_take (i := 5) (v := .pointer (some ⟨w.heap.size + 1 + 1 + 1, 3, none⟩)) rfl (by kernel_rfl) (by kernel_rfl) (by kernel_rfl) (fun _ _ _ h => h) (Or.inl ⟨by rfl, fun w hSw => by have s1 := hSw; go_simp⟩) hS ?_
        simp only [Act.put, List.getElem_toArray, List.getElem_cons_succ, List.getElem_cons_zero, List.setIfInBounds_toArray, List.set_cons_zero, List.set_cons_succ]
        refine wpAnyH_take (i := 6) (v := .slice (some ⟨w.heap.size + 1 + 1, 0, none⟩) C C) rfl (by kernel_rfl) (by kernel_rfl) (by kernel_rfl) (fun _ _ _ h => h) (Or.inl ⟨by rfl, fun w hSw => by have s1 := hSw; go_simp⟩) hS ?_
        simp only [Act.put, List.getElem_toArray, List.getElem_cons_succ, List.getElem_cons_zero, List.setIfInBounds_toArray, List.set_cons_zero, List.set_cons_succ]
        refine wpAnyH_take (i := 7) (v := .int .i64 (i : Int)) rfl (by kernel_rfl) (by kernel_rfl) (by kernel_rfl) (fun _ _ _ h => h) (Or.inl ⟨by rfl, fun w hSw => by have s1 := hSw; go_simp⟩) hS ?_
        simp only [Act.put, List.getElem_toArray, List.getElem_cons_succ, List.getElem_cons_zero, List.setIfInBounds_toArray, List.set_cons_zero, List.set_cons_succ]
        refine wpAnyH_take (i := 8) (v := .int .i64 (C : Int)) rfl (by kernel_rfl) (by kernel_rfl) (by kernel_rfl) (fun _ _ _ h => h) (Or.inl ⟨by rfl, fun w hSw => by have s1 := hSw; go_simp⟩) hS ?_
        simp only [Act.put, List.getElem_toArray, List.getElem_cons_succ, List.getElem_cons_zero, List.setIfInBounds_toArray, List.set_cons_zero, List.set_cons_succ]
        refine wpAnyH_take (i := 9) (v := .int .i64 (k : Int)) rfl (by kernel_rfl) (by kernel_rfl) (by kernel_rfl) (fun _ _ _ h => h) (Or.inl ⟨by rfl, fun w hSw => by have s1 := hSw; go_simp⟩) hS ?_
        simp only [Act.put, List.getElem_toArray, List.getElem_cons_succ, List.getElem_cons_zero, List.setIfInBounds_toArray, List.set_cons_zero, List.set_cons_succ]
        refine wpAnyH_take (i := 10) (v := .pointer (some ⟨w.heap.size + 1 + 1, k, none⟩)) rfl (by kernel_rfl) (by kernel_rfl) (by kernel_rfl) (fun _ _ _ h => h) (Or.inl ⟨by rfl, fun w hSw => by have s1 := hSw; go_simp⟩) hS ?_
        simp only [Act.put, List.getElem_toArray, List.getElem_cons_succ, List.getElem_cons_zero, List.setIfInBounds_toArray, List.set_cons_zero, List.set_cons_succ]
        refine wpAnyH_take (i := 12) (v := .int .i64 x) rfl (by kernel_rfl) (by kernel_rfl) (by kernel_rfl) (fun _ _ _ h => h) (Or.inl ⟨by rfl, fun w hSw => by have s1 := hSw; go_simp⟩) hS ?_
        simp only [Act.put, List.getElem_toArray, List.getElem_cons_succ, List.getElem_cons_zero, List.setIfInBounds_toArray, List.set_cons_zero, List.set_cons_succ]
        refine wpAnyH_ready (rs := [11, 13]) (by kernel_rfl) (by simp) ?_
        refine AllReadyH.cons rfl (fun K hK => ?_) ?_
        · go_simp
          refine hK.out _ _ hS (fun hSa => ?_)
          clear hK K
          refine wpAnyH_ready (rs := [13]) (by kernel_rfl) (by simp) ?_
          refine AllReadyH.cons rfl (fun K hK => ?_) AllReadyH.nil
          go_simp
          refine hK.out _ _ ?_ (fun hSb => ?_)
          · exact sA
          clear hK K
          refine wpAnyH_ready (rs := [14]) (by kernel_rfl) (by simp) ?_
          refine AllReadyH.cons rfl (fun K hK => ?_) AllReadyH.nil
          refine step_append_src _ rfl (.tmp 126) (.tmp 128) 95 rfl (w.heap.size + 2) 3 i3 (.int .i64 0) 8 Tryz.underlying95 H3.out.1 H3.out.2.1 H3.out.2.2.1 H3.out.2.2.2 rfl (.slice ua un uc) lk.length (intsC lk) rfl HOA.out (some ⟨w7.drew.heap.size, 0, none⟩) 1 1 [.int .i64 x] rfl (fun q => (by cases q)) rfl (fun ad q j y hj => one_cell q hj) (fun y hy => by rw [List.mem_singleton] at hy; subst hy; rfl) (by have := HLK.out; simp only [maxLen]; omega) (by have := HLK.out; omega) (by have := HSZ.out; simp at this ⊢; omega) ?_
          intro v8 w8 ho8 hg8 hb8
          obtain ⟨va, vn, vc, rfl⟩ := owns_shape ho8.out
          obtain ⟨C81, C82, C83, C84⟩ := HPU.out _ _ hg8.out ho8.out hb8.out
          have HC8 : Hid (Up w false true rate (C : Int) wd C (vs.set k (.slice va vn vc)) (xs.set k (lk ++ [x])) (w8.setCell ⟨w.heap.size + 1 + 1, k, none⟩ (.slice va vn vc))) := C84
          refine hK.out _ _ C81 (fun hS8 => ?_)
          clear hK K C84
          refine wpAnyH_take (i := 15) (v := .pointer (some ⟨w.heap.size + 1 + 1, k, none⟩)) rfl (by kernel_rfl) (by kernel_rfl) (by kernel_rfl) (fun _ _ _ h => h) (Or.inl ⟨by rfl, fun w hSw => by have s1 := hSw; go_simp⟩) hS8 ?_
          simp only [Act.put, List.getElem_toArray, List.getElem_cons_succ, List.getElem_cons_zero, List.setIfInBounds_toArray, List.set_cons_zero, List.set_cons_succ]
          refine wpAnyH_ready (rs := [16]) (by kernel_rfl) (by simp) ?_
          refine AllReadyH.cons rfl (fun K hK => ?_) AllReadyH.nil
          go_simp
          refine hK.out _ _ HC8.out.q3 (fun hS9 => ?_)
          refine wpAnyH_done (by kernel_rfl) ?_ _
          clear hK K
          go_wp2_with fail
          go_roundw
          case rel => exact ⟨i + 1, by omega, by go_num, vs.set k (.slice va vn vc), by rw [HXS.out]; exact HC8.out, HSB.out⟩
          case measure => simp [intOf]; omega
        · refine AllReadyH.cons rfl (fun K hK => ?_) AllReadyH.nil
          go_simp
          refine hK.out _ _ ?_ (fun hSb => ?_)
          · exact sA
          clear hK K
          refine wpAnyH_ready (rs := [11]) (by kernel_rfl) (by simp) ?_
          refine AllReadyH.cons rfl (fun K hK => ?_) AllReadyH.nil
          go_simp
          refine hK.out _ _ hSb (fun hSc => ?_)
          clear hK K
          refine wpAnyH_ready (rs := [14]) (by kernel_rfl) (by simp) ?_
          refine AllReadyH.cons rfl (fun K hK => ?_) AllReadyH.nil
          refine step_append_src _ rfl (.tmp 126) (.tmp 128) 95 rfl (w.heap.size + 2) 3 i3 (.int .i64 0) 8 Tryz.underlying95 H3.out.1 H3.out.2.1 H3.out.2.2.1 H3.out.2.2.2 rfl (.slice ua un uc) lk.length (intsC lk) rfl HOA.out (some ⟨w7.drew.heap.size, 0, none⟩) 1 1 [.int .i64 x] rfl (fun q => (by cases q)) rfl (fun ad q j y hj => one_cell q hj) (fun y hy => by rw [List.mem_singleton] at hy; subst hy; rfl) (by have := HLK.out; simp only [maxLen]; omega) (by have := HLK.out; omega) (by have := HSZ.out; simp at this ⊢; omega) ?_
          intro v8 w8 ho8 hg8 hb8
          obtain ⟨va, vn, vc, rfl⟩ := owns_shape ho8.out
          obtain ⟨C81, C82, C83, C84⟩ := HPU.out _ _ hg8.out ho8.out hb8.out
          have HC8 : Hid (Up w false true rate (C : Int) wd C (vs.set k (.slice va vn vc)) (xs.set k (lk ++ [x])) (w8.setCell ⟨w.heap.size + 1 + 1, k, none⟩ (.slice va vn vc))) := C84
          refine hK.out _ _ C81 (fun hS8 => ?_)
          clear hK K C84
          refine wpAnyH_take (i := 15) (v := .pointer (some ⟨w.heap.size + 1 + 1, k, none⟩)) rfl (by kernel_rfl) (by kernel_rfl) (by kernel_rfl) (fun _ _ _ h => h) (Or.inl ⟨by rfl, fun w hSw => by have s1 := hSw; go_simp⟩) hS8 ?_
          simp only [Act.put, List.getElem_toArray, List.getElem_cons_succ, List.getElem_cons_zero, List.setIfInBounds_toArray, List.set_cons_zero, List.set_cons_succ]
          refine wpAnyH_ready (rs := [16]) (by kernel_rfl) (by simp) ?_
          refine AllReadyH.cons rfl (fun K hK => ?_) AllReadyH.nil
          go_simp
          refine hK.out _ _ HC8.out.q3 (fun hS9 => ?_)
          refine wpAnyH_done (by kernel_rfl) ?_ _
          clear hK K
          go_wp2_with fail
          go_roundw
          case rel => exact ⟨i + 1, by omega, by go_num, vs.set k (.slice va vn vc), by rw [HXS.out]; exact HC8.out, HSB.out⟩
          case measure => simp [intOf]; omega
    · have hie : i = K := by omega
      obtain ⟨HYE, HYP⟩ := HYS.out (fun j hj => HALL.out j (by omega))
      have HE : Hid (unpE s rate (C : Int) wd false true = 0) := HYE
      obtain ⟨xs, hxs⟩ : ∃ xs, upL s wd false true C i = xs := ⟨_, rfl⟩
      have HPE : Hid (unpP s rate (C : Int) wd false true = ⟨rate, (C : Int), wd, xs⟩) := by
        rw [← hie, hxs] at HYP
        exact HYP
      have HC : Hid (Up w false true rate (C : Int) wd C vs xs wr) := by
        have := HB.out
        rwa [hxs] at this
      have HLB : Hid (∀ k, k < xs.length → (xs.getD k []).length ≤ 17592186044415 ∧ ∀ n ∈ xs.getD k [], -9223372036854775808 ≤ n ∧ n ≤ 9223372036854775807) := fun k hk => by
        have hl := HC.out.len
        obtain ⟨g1, g2⟩ := upL_good s wd false true C i (fun j hj => HALL.out j hj) w1 w2 k (by omega)
        rw [hxs] at g1 g2
        exact ⟨by omega, g2⟩
      have e0 := HC.out.qc 0 (.int .i64 rate) rfl
      have e1 := HC.out.qc 1 (.int .i64 (C : Int)) rfl
      have e2 := HC.out.qc 2 (.int .i64 wd) rfl
      have e3 := HC.out.qc 3 (.slice (some ⟨w.heap.size + 1 + 1, 0, none⟩) C C) rfl
      have r0 := HC.out.r0
      have r1' := HC.out.r1
      have r2' := HC.out.r2
      have r3 := HC.out.r3
      have z0 := HC.out.z 0
      have z1 := HC.out.z 1
      have z2 := HC.out.z 2
      have z3 := HC.out.z 3
      clear HYE HYP hxs HB HALL HYS HNO
      go_wp2_with fail
      generalize hwf : (((wr.setCell ⟨w.heap.size + 1, 0, none⟩ (.int .i64 rate)).setCell ⟨w.heap.size + 1, 1, none⟩ (.int .i64 (C : Int))).setCell ⟨w.heap.size + 1, 2, none⟩ (.int .i64 wd)).setCell ⟨w.heap.size + 1, 3, none⟩ (.slice (some ⟨w.heap.size + 1 + 1, 0, none⟩) C C) = wf
      have hrow : wf.heap[w.heap.size + 1]? = some (.cells #[.int .i64 rate, .int .i64 (C : Int), .int .i64 wd, .slice (some ⟨w.heap.size + 1 + 1, 0, none⟩) C C] 24 (0, 0)) := by
        rw [← hwf, block_set _ _ _ _ _ _ (block_set _ _ _ _ _ _ (block_set _ _ _ _ _ _ (block_set _ _ _ _ _ _ HC.out.res)))]
        rfl
      have hbel : Below w.heap.size w wf := by
        rw [← hwf]
        exact (((HC.out.below.setCell (by simp) _).setCell (by simp) _).setCell (by simp) _).setCell (by simp) _
      have hmat : OwnMat 95 (w.heap.size + 2) wf (.slice (some ⟨w.heap.size + 1 + 1, 0, none⟩) C C) vs xs := by
        rw [← hwf]
        exact (((HC.out.mat.setOther (by simp) _).setOther (by simp) _).setOther (by simp) _).setOther (by simp) _
      obtain ⟨ao2, cap2, hv2, hrows2, hfr2⟩ := hmat.rows (by have := HC.out.len; omega) HLB.out
      have hlen := HC.out.len
      rw [hlen] at hv2
      cases hv2
      refine bodyPost_ret (v := .tuple #[.agg #[.int .i64 rate, .int .i64 (C : Int), .int .i64 wd, .slice (some ⟨w.heap.size + 1 + 1, 0, none⟩) C C], .int .i64 0]) ?_ rfl ⟨some ⟨w.heap.size + 1 + 1, 0, none⟩, C, by rw [HPE.out, HE.out]; show _ = _; unfold pcmV pcmC; rw [hlen], by rw [HPE.out]; exact hrows2, by rw [HPE.out]; exact hfr2.mono (Nat.le_add_right _ _), hbel⟩
      rw [results_two rfl]
      have hld := run_loadVar_row (P := Tryz.prog) wf (w.heap.size + 1) 24 24 _ (0, 0) _ hrow Tryz.underlying24 rfl infoP
      simp [asAddr, Result.andThen, hld]

set_option maxRecDepth 20000 in
set_option maxHeartbeats 6400000 in
theorem runpack_false_false (s : ByteArray) (rate wd : Int) (C : Nat) (w : World) (hs : s.size ≤ 1000000000000000000) (hh : uheadB rate (C : Int) wd = true) (hm : s.size % (nby wd * C) = 0) (h5 : s.size / (nby wd * C) ≤ 1048576) :
    Calls Tryz.prog 21 #[.string s, .int .i64 rate, .int .i64 (C : Int), .int .i64 wd, .agg #[.bool false, .bool false]] w fun e w' => Gives w (unpP s rate (C : Int) wd false false) (unpE s rate (C : Int) wd false false) e w' := by
  have HNO : Hid (∀ i, i < s.size / nby wd → sampB (numI s wd false false i) wd = false → unpE s rate (C : Int) wd false false = 2) := fun i hi hb => by
    unfold unpE
    rw [hh, if_pos rfl, Int.toNat_natCast, if_pos hm, if_neg (by omega), if_neg (fun q => by rw [q i hi] at hb; cases hb)]
  have HYS : Hid ((∀ i, i < s.size / nby wd → sampB (numI s wd false false i) wd = true) → unpE s rate (C : Int) wd false false = 0 ∧ unpP s rate (C : Int) wd false false = ⟨rate, (C : Int), wd, upL s wd false false C (s.size / nby wd)⟩) := fun q => by
    have e : unpE s rate (C : Int) wd false false = 0 := by
      unfold unpE
      rw [hh, if_pos rfl, Int.toNat_natCast, if_pos hm, if_neg (by omega), if_pos q]
    refine ⟨e, ?_⟩
    unfold unpP
    rw [if_pos e, Int.toNat_natCast]
  have HU0 : Hid (Up w false false rate (C : Int) wd C (List.replicate C noS) (List.replicate C []) _) := Up.new w false false rate (C : Int) wd C (by have := uhead_parts hh; omega)
  obtain ⟨r1, r2, c1, c2, w1, w2⟩ := uhead_parts hh
  obtain ⟨n1, n2, n3, n4⟩ := nby_range wd w1 w2
  have hw : (wd + 7) / 8 = (nby wd : Int) := n4.symm
  have hmk := make_rows C (by omega)
  obtain ⟨hp1, hp2⟩ := pow31 (wd - 1).toNat (by omega)
  have hkw : (wd - 1).toNat = wd.toNat - 1 := by omega
  rw [hkw] at hp1 hp2
  obtain ⟨H, hH⟩ : ∃ H : Int, (2 : Int) ^ (wd.toNat - 1) = H := ⟨_, rfl⟩
  rw [hH] at hp1 hp2
  have HKE : Hid (s.size / nby wd ≤ 8388608) := by
    show _ ≤ _
    have e : s.size = nby wd * C * (s.size / (nby wd * C)) := by
      have := Nat.div_add_mod s.size (nby wd * C)
      omega
    have e2 : s.size / nby wd = C * (s.size / (nby wd * C)) := by
      have : s.size = nby wd * (C * (s.size / (nby wd * C))) := by rw [← Nat.mul_assoc]; exact e
      exact Nat.div_eq_of_eq_mul_right (by omega) this
    rw [e2]
    exact Nat.le_trans (Nat.mul_le_mul (by omega : C ≤ 8) h5) (by decide)
  have hmul : (nby wd : Int) * (C : Int) = ((nby wd * C : Nat) : Int) := by simp
  have hq1 : 1 ≤ nby wd * C := Nat.mul_le_mul n1 (by omega : 1 ≤ C)
  have hq2 : nby wd * C ≤ 4 * 8 := Nat.mul_le_mul n2 (by omega : C ≤ 8)
  have hb : ((s.size : Int) % ((nby wd * C : Nat) : Int) == 0) = true := by
    rw [beq_iff_eq]
    omega
  have hqd : (s.size : Int) / ((nby wd * C : Nat) : Int) = ((s.size / (nby wd * C) : Nat) : Int) := by simp
  have hkd : (s.size : Int) / (nby wd : Int) = ((s.size / nby wd : Nat) : Int) := by simp
  have HKM : Hid (s.size / nby wd * nby wd ≤ s.size) := Nat.div_mul_le_self _ _
  obtain ⟨i3, h30, h31, h32, h33⟩ := info_parts info3'
  have H3 : Hid (Tryz.prog.info? 3 = some i3 ∧ i3.zero = some (.int .i64 0) ∧ i3.size = 1 ∧ i3.bytes = 8) := ⟨h30, h31, h32, h33⟩
  clear hh h30 h31 h32 h33 n4
  generalize nby wd * C = M at *
  generalize s.size / M = Q at *
  generalize hK : s.size / nby wd = K at *
  have hKb : K ≤ 8388608 := HKE.out
  clear hK HKE
  go_enter Tryz.func21, Tryz.ntmps21
  go_wp2_with fail
  generalize hwa : World.alloc _ _ = wa
  have HA : Hid (Up w false false rate (C : Int) wd C (List.replicate C noS) (List.replicate C []) wa) := by
    rw [← hwa]
    exact HU0.out
  clear hwa HU0
  rw [hw]
  generalize Value.bool ((s.size : Int) % (M : Int) != 0) = v49
  generalize Value.int IntKind.i64 ((s.size : Int) % (M : Int)) = v48
  go_loopw [14] (fun t wr => ∃ i : Nat, i ≤ K ∧ t = .int .i64 (i : Int) ∧ ∃ vs, Up w false false rate (C : Int) wd C vs (upL s wd false false C i) wr ∧ ∀ j, j < i → sampB (numI s wd false false j) wd = true) (fun t _ => K - (intOf t).toNat)
  case atStart => exact ⟨0, Nat.zero_le _, rfl, List.replicate C noS, HA.out, fun j hj => absurd hj (Nat.not_lt_zero _)⟩
  case round =>
    clear HA
    obtain ⟨i, hi, rfl, vs, hup, hall⟩ := hrel
    have HB : Hid (Up w false false rate (C : Int) wd C vs (upL s wd false false C i) wr) := hup
    have HALL : Hid (∀ j, j < i → sampB (numI s wd false false j) wd = true) := hall
    clear hup hall
    by_cases hlt : i < K
    · have hle : i * nby wd + nby wd ≤ s.size := by
        have h1 : (i + 1) * nby wd ≤ K * nby wd := Nat.mul_le_mul_right _ (by omega)
        rw [Nat.succ_mul] at h1
        have := HKM.out
        omega
      have hml := mOf_lt s (nby wd) false i hle
      have hm4 : mOf s (nby wd) false i ≤ 4294967295 := by
        have q1 : 256 ^ nby wd ≤ 256 ^ 4 := Nat.pow_le_pow_right (by decide) n2
        have q3 : (256 : Nat) ^ 4 = 4294967296 := by decide
        omega
      have hsz := bytesOf_ext s (i * nby wd) (i * nby wd + nby wd) (by omega) hle
      have kle := reffromLe_spec (s.extract (i * nby wd) (i * nby wd + nby wd)) (by omega)
      have kbe := reffromBe_spec (s.extract (i * nby wd) (i * nby wd + nby wd)) (by omega)
      have hmv : fromBe ((bytesOf (s.extract (i * nby wd) (i * nby wd + nby wd))).reverse) = (mOf s (nby wd) false i : Int) := by
        have e : mOf s (nby wd) false i = val ((bytesOf (s.extract (i * nby wd) (i * nby wd + nby wd))).reverse) := rfl
        rw [e] at hm4 ⊢
        refine fromBe_of _ ?_ (by omega)
        rw [List.length_reverse]
        rw [bytesOf_length]
        omega
      rw [hmv] at kle
      
      obtain ⟨m, hmm⟩ : ∃ m : Nat, mOf s (nby wd) false i = m := ⟨_, rfl⟩
      have HX : Hid (numI s wd false false i = decN wd false m) := by
        show _ = _
        rw [← hmm]
        rfl
      rw [hmm] at hm4 kle
      obtain ⟨xs, hxs⟩ : ∃ xs, upL s wd false false C i = xs := ⟨_, rfl⟩
      obtain ⟨k, hk⟩ : ∃ k, i % C = k := ⟨_, rfl⟩
      obtain ⟨lk, hlk⟩ : ∃ lk, xs.getD k [] = lk := ⟨_, rfl⟩
      obtain ⟨x, hx⟩ : ∃ x, numI s wd false false i = x := ⟨_, rfl⟩
      have HXS : Hid (upL s wd false false C (i + 1) = xs.set k (lk ++ [x])) := by
        show _ = _
        rw [← hlk, ← hk, ← hxs, ← hx]
        rfl
      have HLKE : Hid (xs.getD k [] = lk) := hlk
      have HB2 : Hid (Up w false false rate (C : Int) wd C vs xs wr) := by
        have := HB.out
        rwa [hxs] at this
      have HNI : Hid (sampB x wd = false → unpE s rate (C : Int) wd false false = 2) := by
        have := HNO.out i hlt
        rwa [hx] at this
      have HYES : Hid (sampB x wd = true → ∀ j, j < i + 1 → sampB (numI s wd false false j) wd = true) := fun hb j hj => by
        by_cases e : j = i
        · rw [e, hx]
          exact hb
        · exact HALL.out j (by omega)
      have HLK : Hid (lk.length ≤ 8388608) := by
        have h1 := upL_len s wd false false C i (i % C)
        rw [hxs, hk, hlk] at h1
        show _ ≤ _
        omega
      have hkC : k < C := by rw [← hk]; exact Nat.mod_lt _ (by omega)
      have hrm1 : Int.tmod (i : Int) (C : Int) = (k : Int) := by
        rw [Int.tmod_eq_emod_of_nonneg (by omega), ← hk]
        simp
      have hrm2 : (i : Int) % (C : Int) = (k : Int) := by
        rw [← hk]
        simp
      have ha : (i : Int) * (nby wd : Int) = ((i * nby wd : Nat) : Int) := by simp
      have HX2 : Hid (x = decN wd false m) := by
        have := HX.out
        rwa [hx] at this
      have hC0 : ¬ C = 0 := by omega
      have l0 := HB2.out.l0
      have l1 := HB2.out.l1
      clear hmv hml hmm HALL HX hx hlk hk hxs HB HNO HYS hmk hqd hb hmul
      have hsl := slice_run s (i * nby wd) (i * nby wd + nby wd) (by omega) hle
      have hab : ((i * nby wd : Nat) : Int) + (nby wd : Int) = ((i * nby wd + nby wd : Nat) : Int) := by simp
      generalize i * nby wd + nby wd = b at *
      generalize hA : i * nby wd = a at *
      have ha63 : a ≤ b := by omega
      generalize hT : s.extract a b = tx at *
      clear hA hT
      obtain ⟨G, hG⟩ : ∃ G : Int, (2 : Int) ^ (8 * nby wd - 1) = G := ⟨_, rfl⟩
      obtain ⟨MM, hMM⟩ : ∃ G : Int, (2 : Int) ^ (8 * nby wd) = G := ⟨_, rfl⟩
      obtain ⟨hG1, hG2⟩ := pow31 (8 * nby wd - 1) (by omega)
      have hM1 : 1 ≤ MM ∧ MM ≤ 4294967296 := by
        have q1 : 256 ^ nby wd ≤ 256 ^ 4 := Nat.pow_le_pow_right (by decide) n2
        have q2 : 0 < 256 ^ nby wd := Nat.pow_pos (by decide)
        have q3 : (256 : Nat) ^ 4 = 4294967296 := by decide
        rw [← hMM, pow_eq, pow256]
        omega
      rw [hG] at hG1 hG2
      have h8 : (8 * (nby wd : Int)).toNat = 8 * nby wd := by omega
      have h81 : (8 * (nby wd : Int) - 1).toNat = 8 * nby wd - 1 := by omega
      by_cases hge : G ≤ (m : Int)
      · have hadd : (m : Int) - MM = x := by
          have h := HX2.out
          unfold decN at h
          rw [if_neg (by decide), hG, if_pos hge, hMM] at h
          exact h.symm
        clear HX2
        go_wp2_with fail
        refine (kle wr).mono ?_
        rintro e w5 ⟨rfl, hB5⟩
        have P5 : Hid (Up w false false rate (C : Int) wd C vs xs w5) := HB2.out.next hB5
        clear hB5
        have m0 := P5.out.l0
        have m1 := P5.out.l1
        go_wp2_with fail
        refine (rsample_spec x wd w1 w2 _).mono ?_
        rintro e w7 ⟨rfl, q7⟩
        have P7 : Hid (Up w false false rate (C : Int) wd C vs xs w7) := by
          rw [q7]
          exact P5.out
        clear q7 P5
        cases hsb : sampB x wd
        · have HN : Hid (unpE s rate (C : Int) wd false false = 2) := HNI.out hsb
          have HP : Hid (unpP s rate (C : Int) wd false false = noP) := by
            show _ = _
            unfold unpP
            rw [HN.out]
            rfl
          have r0 := P7.out.r0
          have r1 := P7.out.r1
          have r2 := P7.out.r2
          have r3 := P7.out.r3
          have z0 := P7.out.z 0
          have z1 := P7.out.z 1
          have z2 := P7.out.z 2
          have z3 := P7.out.z 3
          have HU : Hid (Un w false false w7) := P7.out.un
          clear P7
          go_wp2_with fail
          generalize hwf : ((((w7).setCell ⟨w.heap.size + 1, 0, none⟩ (.int .i64 0)).setCell ⟨w.heap.size + 1, 1, none⟩ (.int .i64 0)).setCell ⟨w.heap.size + 1, 2, none⟩ (.int .i64 0)).setCell ⟨w.heap.size + 1, 3, none⟩ (.slice none 0 0) = wf
          have hrow : wf.heap[w.heap.size + 1]? = some (.cells zeroP 24 (0, 0)) := by
            rw [← hwf, block_set _ _ _ _ _ _ (block_set _ _ _ _ _ _ (block_set _ _ _ _ _ _ (block_set _ _ _ _ _ _ HU.out.res)))]
            rfl
          have hbel : Below w.heap.size w wf := by
            rw [← hwf]
            exact (((HU.out.below.setCell (by simp) _).setCell (by simp) _).setCell (by simp) _).setCell (by simp) _
          refine bodyPost_ret (v := .tuple #[.agg zeroP, .int .i64 2]) ?_ rfl ⟨none, 0, by rw [HP.out, HN.out]; rfl, by rw [HP.out]; exact rows_none _ _, by rw [HP.out]; exact fresh_none _ _ _, hbel⟩
          rw [results_two rfl]
          have hld := run_loadVar_row (P := Tryz.prog) wf (w.heap.size + 1) 24 24 zeroP (0, 0) _ hrow Tryz.underlying24 rfl infoP
          simp [asAddr, Result.andThen, hld]
        · have HSB : Hid (∀ j, j < i + 1 → sampB (numI s wd false false j) wd = true) := HYES.out hsb
          have s0 : w7.drew.cell? ⟨w.heap.size + 1 + 1 + 1, 3, none⟩ = some (.slice (some ⟨w.heap.size + 1 + 1, 0, none⟩) C C) := P7.out.drew.q3
          obtain ⟨o0, o1⟩ := P7.out.drew.row k hkC
          have ho : w7.drew.ownsRow (w.heap.size + 2) 3 1 (vs.getD k noS) lk.length (intsC lk) := by
            rw [← HLKE.out]
            exact P7.out.drew.mat.inner k (by rw [P7.out.len]; exact hkC)
          obtain ⟨ua, un, uc, hu⟩ := owns_shape ho
          have HUD : Hid (vs.getD k noS = .slice ua un uc) := hu
          rw [hu] at o0 ho
          have HO : Hid (w7.drew.ownsRow (w.heap.size + 2) 3 1 (.slice ua un uc) lk.length (intsC lk)) := ho
          have HSZ : Hid (w.heap.size + 4 ≤ w7.drew.heap.size) := P7.out.drew.size
          have HW : Hid (Up w false false rate (C : Int) wd C vs xs w7.drew) := P7.out.drew
          have HAL : Hid (Up w false false rate (C : Int) wd C vs xs (w7.drew.alloc (.cells #[.int .i64 x] 3))) := HW.out.next ((Below.refl _ _).alloc (Nat.le_refl _) _)
          have HOA : Hid ((w7.drew.alloc (.cells #[.int .i64 x] 3)).ownsRow (w.heap.size + 2) 3 1 (.slice ua un uc) lk.length (intsC lk)) := owns_below HO.out ((Below.refl _ _).alloc (Nat.le_refl _) _)
          have a0 : (w7.drew.alloc (.cells #[.int .i64 x] 3)).cell? ⟨w.heap.size + 1 + 1, k, none⟩ = some (.slice ua un uc) := by
            have := (HAL.out.row k hkC).1
            rwa [hu] at this
          have a0' : (w7.alloc (.cells #[.int .i64 x] 3)).cell? ⟨w.heap.size + 1 + 1, k, none⟩ = some (.slice ua un uc) := a0
          have sA : (w7.drew.alloc (.cells #[.int .i64 x] 3)).cell? ⟨w.heap.size + 1 + 1 + 1, 3, none⟩ = some (.slice (some ⟨w.heap.size + 1 + 1, 0, none⟩) C C) := HAL.out.q3
          have HPU : Hid (∀ v8 w8, (w7.drew.alloc (.cells #[.int .i64 x] 3)).grownBy w8 (Value.slice ua un uc).ownBlock → w8.ownsRow (w.heap.size + 2) 3 1 v8 (lk.length + 1) (intsC lk ++ [.int .i64 x]) → (v8.ownBlock = (Value.slice ua un uc).ownBlock ∨ v8.ownBlock = some (w7.drew.alloc (.cells #[.int .i64 x] 3)).heap.size) →
              w8.cell? ⟨w.heap.size + 1 + 1 + 1, 3, none⟩ = some (.slice (some ⟨w.heap.size + 1 + 1, 0, none⟩) C C) ∧ w8.cell? ⟨w.heap.size + 1 + 1, k, none⟩ = some (.slice ua un uc) ∧ w8.frozen? ⟨w.heap.size + 1 + 1, k, none⟩ = false ∧ Up w false false rate (C : Int) wd C (vs.set k v8) (xs.set k (lk ++ [x])) (w8.setCell ⟨w.heap.size + 1 + 1, k, none⟩ v8)) := fun v8 w8 hg hw hb => by
            rw [← HUD.out] at hg hb ⊢
            rw [← HLKE.out] at hw ⊢
            obtain ⟨t1, t2, t3⟩ := HAL.out.kept k hkC hg
            exact ⟨t1, t2, t3, HAL.out.push k hkC hg hw hb⟩
          clear P7 ho hu HW HAL
          go_wp2_with fail
          refine wp_region_held_drew (S := fun wx => wx.cell? ⟨w.heap.size + 1 + 1 + 1, 3, none⟩ = some (.slice (some ⟨w.heap.size + 1 + 1, 0, none⟩) C C)) (by kernel_rfl) s0 (fun hS => ?_)
          refine wpAnyH_take (i := 0) (v := .pointer (some ⟨w.heap.size + 1 + 1 + 1, 3, none⟩)) rfl (by kernel_rfl) (by kernel_rfl) (by kernel_rfl) (fun _ _ _ h => h) (Or.inl ⟨by rfl, fun w hSw => by have s1 := hSw; go_simp⟩) hS ?_
          simp only [Act.put, List.getElem_toArray, List.getElem_cons_succ, List.getElem_cons_zero, List.setIfInBounds_toArray, List.set_cons_zero, List.set_cons_succ]
          refine wpAnyH_take (i := 1) (v := .slice (some ⟨w.heap.size + 1 + 1, 0, none⟩) C C) rfl (by kernel_rfl) (by kernel_rfl) (by kernel_rfl) (fun _ _ _ h => h) (Or.inl ⟨by rfl, fun w hSw => by have s1 := hSw; go_simp⟩) hS ?_
          simp only [Act.put, List.getElem_toArray, List.getElem_cons_succ, List.getElem_cons_zero, List.setIfInBounds_toArray, List.set_cons_zero, List.set_cons_succ]
          refine wpAnyH_take (i := 2) (v := .int .i64 (i : Int)) rfl (by kernel_rfl) (by kernel_rfl) (by kernel_rfl) (fun _ _ _ h => h) (Or.inl ⟨by rfl, fun w hSw => by have s1 := hSw; go_simp⟩) hS ?_
          simp only [Act.put, List.getElem_toArray, List.getElem_cons_succ, List.getElem_cons_zero, List.setIfInBounds_toArray, List.set_cons_zero, List.set_cons_succ]
          refine wpAnyH_take (i := 3) (v := .int .i64 (C : Int)) rfl (by kernel_rfl) (by kernel_rfl) (by kernel_rfl) (fun _ _ _ h => h) (Or.inl ⟨by rfl, fun w hSw => by have s1 := hSw; go_simp⟩) hS ?_
          simp only [Act.put, List.getElem_toArray, List.getElem_cons_succ, List.getElem_cons_zero, List.setIfInBounds_toArray, List.set_cons_zero, List.set_cons_succ]
          refine wpAnyH_take (i := 4) (v := .int .i64 (k : Int)) rfl (by kernel_rfl) (by kernel_rfl) (by kernel_rfl) (fun _ _ _ h => h) (Or.inl ⟨by rfl, fun w hSw => by have s1 := hSw; go_simp⟩) hS ?_
          simp only [Act.put, List.getElem_toArray, List.getElem_cons_succ, List.getElem_cons_zero, List.setIfInBounds_toArray, List.set_cons_zero, List.set_cons_succ]
          refine wpAnyH_take (i := 5) (v := .pointer (some ⟨w.heap.size + 1 + 1 + 1, 3, none⟩)) rfl (by kernel_rfl) (by kernel_rfl) (by kernel_rfl) (fun _ _ _ h => h) (Or.inl ⟨by rfl, fun w hSw => by have s1 := hSw; go_simp⟩) hS ?_
          simp only [Act.put, List.getElem_toArray, List.getElem_cons_succ, List.getElem_cons_zero, List.setIfInBounds_toArray, List.set_cons_zero, List.set_cons_succ]
          refine wpAnyH_take (i := 6) (v := .slice (some ⟨w.heap.size + 1 + 1, 0, none⟩) C C) rfl (by kernel_rfl) (by kernel_rfl) (by kernel_rfl) (fun _ _ _ h => h) (Or.inl ⟨by rfl, fun w hSw => by have s1 := hSw; go_simp⟩) hS ?_
          simp only [Act.put, List.getElem_toArray, List.getElem_cons_succ, List.getElem_cons_zero, List.setIfInBounds_toArray, List.set_cons_zero, List.set_cons_succ]
          refine wpAnyH_take (i := 7) (v := .int .i64 (i : Int)) rfl (by kernel_rfl) (by kernel_rfl) (by kernel_rfl) (fun _ _ _ h => h) (Or.inl ⟨by rfl, fun w hSw => by have s1 := hSw; go_simp⟩) hS ?_
          simp only [Act.put, List.getElem_toArray, List.getElem_cons_succ, List.getElem_cons_zero, List.setIfInBounds_toArray, List.set_cons_zero, List.set_cons_succ]
          refine wpAnyH_take (i := 8) (v := .int .i64 (C : Int)) rfl (by kernel_rfl) (by kernel_rfl) (by kernel_rfl) (fun _ _ _ h => h) (Or.inl ⟨by rfl, fun w hSw => by have s1 := hSw; go_simp⟩) hS ?_
          simp only [Act.put, List.getElem_toArray, List.getElem_cons_succ, List.getElem_cons_zero, List.setIfInBounds_toArray, List.set_cons_zero, List.set_cons_succ]
          refine wpAnyH_take (i := 9) (v := .int .i64 (k : Int)) rfl (by kernel_rfl) (by kernel_rfl) (by kernel_rfl) (fun _ _ _ h => h) (Or.inl ⟨by rfl, fun w hSw => by have s1 := hSw; go_simp⟩) hS ?_
          simp only [Act.put, List.getElem_toArray, List.getElem_cons_succ, List.getElem_cons_zero, List.setIfInBounds_toArray, List.set_cons_zero, List.set_cons_succ]
          refine wpAnyH_take (i := 10) (v := .pointer (some ⟨w.heap.size + 1 + 1, k, none⟩)) rfl (by kernel_rfl) (by kernel_rfl) (by kernel_rfl) (fun _ _ _ h => h) (Or.inl ⟨by rfl, fun w hSw => by have s1 := hSw; go_simp⟩) hS ?_
          simp only [Act.put, List.getElem_toArray, List.getElem_cons_succ, List.getElem_cons_zero, List.setIfInBounds_toArray, List.set_cons_zero, List.set_cons_succ]
          refine wpAnyH_take (i := 12) (v := .int .i64 x) rfl (by kernel_rfl) (by kernel_rfl) (by kernel_rfl) (fun _ _ _ h => h) (Or.inl ⟨by rfl, fun w hSw => by have s1 := hSw; go_simp⟩) hS ?_
          simp only [Act.put, List.getElem_toArray, List.getElem_cons_succ, List.getElem_cons_zero, List.setIfInBounds_toArray, List.set_cons_zero, List.set_cons_succ]
          refine wpAnyH_ready (rs := [11, 13]) (by kernel_rfl) (by simp) ?_
          refine AllReadyH.cons rfl (fun K hK => ?_) ?_
          · go_simp
            refine hK.out _ _ hS (fun hSa => ?_)
            clear hK K
            refine wpAnyH_ready (rs := [13]) (by kernel_rfl) (by simp) ?_
            refine AllReadyH.cons rfl (fun K hK => ?_) AllReadyH.nil
            go_simp
            refine hK.out _ _ ?_ (fun hSb => ?_)
            · exact sA
            clear hK K
            refine wpAnyH_ready (rs := [14]) (by kernel_rfl) (by simp) ?_
            refine AllReadyH.cons rfl (fun K hK => ?_) AllReadyH.nil
            refine step_append_src _ rfl (.tmp 126) (.tmp 128) 95 rfl (w.heap.size + 2) 3 i3 (.int .i64 0) 8 Tryz.underlying95 H3.out.1 H3.out.2.1 H3.out.2.2.1 H3.out.2.2.2 rfl (.slice ua un uc) lk.length (intsC lk) rfl HOA.out (some ⟨w7.drew.heap.size, 0, none⟩) 1 1 [.int .i64 x] rfl (fun q => (by cases q)) rfl (fun ad q j y hj => one_cell q hj) (fun y hy => by rw [List.mem_singleton] at hy; subst hy; rfl) (by have := HLK.out; simp only [maxLen]; omega) (by have := HLK.out; omega) (by have := HSZ.out; simp at this ⊢; omega) ?_
            intro v8 w8 ho8 hg8 hb8
            obtain ⟨va, vn, vc, rfl⟩ := owns_shape ho8.out
            obtain ⟨C81, C82, C83, C84⟩ := HPU.out _ _ hg8.out ho8.out hb8.out
            have HC8 : Hid (Up w false false rate (C : Int) wd C (vs.set k (.slice va vn vc)) (xs.set k (lk ++ [x])) (w8.setCell ⟨w.heap.size + 1 + 1, k, none⟩ (.slice va vn vc))) := C84
            refine hK.out _ _ C81 (fun hS8 => ?_)
            clear hK K C84
            refine wpAnyH_take (i := 15) (v := .pointer (some ⟨w.heap.size + 1 + 1, k, none⟩)) rfl (by kernel_rfl) (by kernel_rfl) (by kernel_rfl) (fun _ _ _ h => h) (Or.inl ⟨by rfl, fun w hSw => by have s1 := hSw; go_simp⟩) hS8 ?_
            simp only [Act.put, List.getElem_toArray, List.getElem_cons_succ, List.getElem_cons_zero, List.setIfInBounds_toArray, List.set_cons_zero, List.set_cons_succ]
            refine wpAnyH_ready (rs := [16]) (by kernel_rfl) (by simp) ?_
            refine AllReadyH.cons rfl (fun K hK => ?_) AllReadyH.nil
            go_simp
            refine hK.out _ _ HC8.out.q3 (fun hS9 => ?_)
            refine wpAnyH_done (by kernel_rfl) ?_ _
            clear hK K
            go_wp2_with fail
            go_roundw
            case rel => exact ⟨i + 1, by omega, by go_num, vs.set k (.slice va vn vc), by rw [HXS.out]; exact HC8.out, HSB.out⟩
            case measure => simp [intOf]; omega
          · refine AllReadyH.cons rfl (fun K hK => ?_) AllReadyH.nil
            go_simp
            refine hK.out _ _ ?_ (fun hSb => ?_)
            · exact sA
            clear hK K
            refine wpAnyH_ready (rs := [11]) (by kernel_rfl) (by simp) ?_
            refine AllReadyH.cons rfl (fun K hK => ?_) AllReadyH.nil
            go_simp
            refine hK.out _ _ hSb (fun hSc => ?_)
            clear hK K
            refine wpAnyH_ready (rs := [14]) (by kernel_rfl) (by simp) ?_
            refine AllReadyH.cons rfl (fun K hK => ?_) AllReadyH.nil
            refine step_append_src _ rfl (.tmp 126) (.tmp 128) 95 rfl (w.heap.size + 2) 3 i3 (.int .i64 0) 8 Tryz.underlying95 H3.out.1 H3.out.2.1 H3.out.2.2.1 H3.out.2.2.2 rfl (.slice ua un uc) lk.length (intsC lk) rfl HOA.out (some ⟨w7.drew.heap.size, 0, none⟩) 1 1 [.int .i64 x] rfl (fun q => (by cases q)) rfl (fun ad q j y hj => one_cell q hj) (fun y hy => by rw [List.mem_singleton] at hy; subst hy; rfl) (by have := HLK.out; simp only [maxLen]; omega) (by have := HLK.out; omega) (by have := HSZ.out; simp at this ⊢; omega) ?_
            intro v8 w8 ho8 hg8 hb8
            obtain ⟨va, vn, vc, rfl⟩ := owns_shape ho8.out
            obtain ⟨C81, C82, C83, C84⟩ := HPU.out _ _ hg8.out ho8.out hb8.out
            have HC8 : Hid (Up w false false rate (C : Int) wd C (vs.set k (.slice va vn vc)) (xs.set k (lk ++ [x])) (w8.setCell ⟨w.heap.size + 1 + 1, k, none⟩ (.slice va vn vc))) := C84
            refine hK.out _ _ C81 (fun hS8 => ?_)
            clear hK K C84
            refine wpAnyH_take (i := 15) (v := .pointer (some ⟨w.heap.size + 1 + 1, k, none⟩)) rfl (by kernel_rfl) (by kernel_rfl) (by kernel_rfl) (fun _ _ _ h => h) (Or.inl ⟨by rfl, fun w hSw => by have s1 := hSw; go_simp⟩) hS8 ?_
            simp only [Act.put, List.getElem_toArray, List.getElem_cons_succ, List.getElem_cons_zero, List.setIfInBounds_toArray, List.set_cons_zero, List.set_cons_succ]
            refine wpAnyH_ready (rs := [16]) (by kernel_rfl) (by simp) ?_
            refine AllReadyH.cons rfl (fun K hK => ?_) AllReadyH.nil
            go_simp
            refine hK.out _ _ HC8.out.q3 (fun hS9 => ?_)
            refine wpAnyH_done (by kernel_rfl) ?_ _
            clear hK K
            go_wp2_with fail
            go_roundw
            case rel => exact ⟨i + 1, by omega, by go_num, vs.set k (.slice va vn vc), by rw [HXS.out]; exact HC8.out, HSB.out⟩
            case measure => simp [intOf]; omega
      · have hadd : (m : Int) = x := by
          have h := HX2.out
          unfold decN at h
          rw [if_neg (by decide), hG, if_neg hge] at h
          exact h.symm
        clear HX2
        go_wp2_with fail
        refine (kle wr).mono ?_
        rintro e w5 ⟨rfl, hB5⟩
        have P5 : Hid (Up w false false rate (C : Int) wd C vs xs w5) := HB2.out.next hB5
        clear hB5
        have m0 := P5.out.l0
        have m1 := P5.out.l1
        go_wp2_with fail
        refine (rsample_spec x wd w1 w2 _).mono ?_
        rintro e w7 ⟨rfl, q7⟩
        have P7 : Hid (Up w false false rate (C : Int) wd C vs xs w7) := by
          rw [q7]
          exact P5.out
        clear q7 P5
        cases hsb : sampB x wd
        · have HN : Hid (unpE s rate (C : Int) wd false false = 2) := HNI.out hsb
          have HP : Hid (unpP s rate (C : Int) wd false false = noP) := by
            show _ = _
            unfold unpP
            rw [HN.out]
            rfl
          have r0 := P7.out.r0
          have r1 := P7.out.r1
          have r2 := P7.out.r2
          have r3 := P7.out.r3
          have z0 := P7.out.z 0
          have z1 := P7.out.z 1
          have z2 := P7.out.z 2
          have z3 := P7.out.z 3
          have HU : Hid (Un w false false w7) := P7.out.un
          clear P7
          go_wp2_with fail
          generalize hwf : ((((w7).setCell ⟨w.heap.size + 1, 0, none⟩ (.int .i64 0)).setCell ⟨w.heap.size + 1, 1, none⟩ (.int .i64 0)).setCell ⟨w.heap.size + 1, 2, none⟩ (.int .i64 0)).setCell ⟨w.heap.size + 1, 3, none⟩ (.slice none 0 0) = wf
          have hrow : wf.heap[w.heap.size + 1]? = some (.cells zeroP 24 (0, 0)) := by
            rw [← hwf, block_set _ _ _ _ _ _ (block_set _ _ _ _ _ _ (block_set _ _ _ _ _ _ (block_set _ _ _ _ _ _ HU.out.res)))]
            rfl
          have hbel : Below w.heap.size w wf := by
            rw [← hwf]
            exact (((HU.out.below.setCell (by simp) _).setCell (by simp) _).setCell (by simp) _).setCell (by simp) _
          refine bodyPost_ret (v := .tuple #[.agg zeroP, .int .i64 2]) ?_ rfl ⟨none, 0, by rw [HP.out, HN.out]; rfl, by rw [HP.out]; exact rows_none _ _, by rw [HP.out]; exact fresh_none _ _ _, hbel⟩
          rw [results_two rfl]
          have hld := run_loadVar_row (P := Tryz.prog) wf (w.heap.size + 1) 24 24 zeroP (0, 0) _ hrow Tryz.underlying24 rfl infoP
          simp [asAddr, Result.andThen, hld]
        · have HSB : Hid (∀ j, j < i + 1 → sampB (numI s wd false false j) wd = true) := HYES.out hsb
          have s0 : w7.drew.cell? ⟨w.heap.size + 1 + 1 + 1, 3, none⟩ = some (.slice (some ⟨w.heap.size + 1 + 1, 0, none⟩) C C) := P7.out.drew.q3
          obtain ⟨o0, o1⟩ := P7.out.drew.row k hkC
          have ho : w7.drew.ownsRow (w.heap.size + 2) 3 1 (vs.getD k noS) lk.length (intsC lk) := by
            rw [← HLKE.out]
            exact P7.out.drew.mat.inner k (by rw [P7.out.len]; exact hkC)
          obtain ⟨ua, un, uc, hu⟩ := owns_shape ho
          have HUD : Hid (vs.getD k noS = .slice ua un uc) := hu
          rw [hu] at o0 ho
          have HO : Hid (w7.drew.ownsRow (w.heap.size + 2) 3 1 (.slice ua un uc) lk.length (intsC lk)) := ho
          have HSZ : Hid (w.heap.size + 4 ≤ w7.drew.heap.size) := P7.out.drew.size
          have HW : Hid (Up w false false rate (C : Int) wd C vs xs w7.drew) := P7.out.drew
          have HAL : Hid (Up w false false rate (C : Int) wd C vs xs (w7.drew.alloc (.cells #[.int .i64 x] 3))) := HW.out.next ((Below.refl _ _).alloc (Nat.le_refl _) _)
          have HOA : Hid ((w7.drew.alloc (.cells #[.int .i64 x] 3)).ownsRow (w.heap.size + 2) 3 1 (.slice ua un uc) lk.length (intsC lk)) := owns_below HO.out ((Below.refl _ _).alloc (Nat.le_refl _) _)
          have a0 : (w7.drew.alloc (.cells #[.int .i64 x] 3)).cell? ⟨w.heap.size + 1 + 1, k, none⟩ = some (.slice ua un uc) := by
            have := (HAL.out.row k hkC).1
            rwa [hu] at this
          have a0' : (w7.alloc (.cells #[.int .i64 x] 3)).cell? ⟨w.heap.size + 1 + 1, k, none⟩ = some (.slice ua un uc) := a0
          have sA : (w7.drew.alloc (.cells #[.int .i64 x] 3)).cell? ⟨w.heap.size + 1 + 1 + 1, 3, none⟩ = some (.slice (some ⟨w.heap.size + 1 + 1, 0, none⟩) C C) := HAL.out.q3
          have HPU : Hid (∀ v8 w8, (w7.drew.alloc (.cells #[.int .i64 x] 3)).grownBy w8 (Value.slice ua un uc).ownBlock → w8.ownsRow (w.heap.size + 2) 3 1 v8 (lk.length + 1) (intsC lk ++ [.int .i64 x]) → (v8.ownBlock = (Value.slice ua un uc).ownBlock ∨ v8.ownBlock = some (w7.drew.alloc (.cells #[.int .i64 x] 3)).heap.size) →
              w8.cell? ⟨w.heap.size + 1 + 1 + 1, 3, none⟩ = some (.slice (some ⟨w.heap.size + 1 + 1, 0, none⟩) C C) ∧ w8.cell? ⟨w.heap.size + 1 + 1, k, none⟩ = some (.slice ua un uc) ∧ w8.frozen? ⟨w.heap.size + 1 + 1, k, none⟩ = false ∧ Up w false false rate (C : Int) wd C (vs.set k v8) (xs.set k (lk ++ [x])) (w8.setCell ⟨w.heap.size + 1 + 1, k, none⟩ v8)) := fun v8 w8 hg hw hb => by
            rw [← HUD.out] at hg hb ⊢
            rw [← HLKE.out] at hw ⊢
            obtain ⟨t1, t2, t3⟩ := HAL.out.kept k hkC hg
            exact ⟨t1, t2, t3, HAL.out.push k hkC hg hw hb⟩
          clear P7 ho hu HW HAL
          go_wp2_with fail
          refine wp_region_held_drew (S := fun wx => wx.cell? ⟨w.heap.size + 1 + 1 + 1, 3, none⟩ = some (.slice (some ⟨w.heap.size + 1 + 1, 0, none⟩) C C)) (by kernel_rfl) s0 (fun hS => ?_)
          refine wpAnyH_take (i := 0) (v := .pointer (some ⟨w.heap.size + 1 + 1 + 1, 3, none⟩)) rfl (by kernel_rfl) (by kernel_rfl) (by kernel_rfl) (fun _ _ _ h => h) (Or.inl ⟨by rfl, fun w hSw => by have s1 := hSw; go_simp⟩) hS ?_
          simp only [Act.put, List.getElem_toArray, List.getElem_cons_succ, List.getElem_cons_zero, List.setIfInBounds_toArray, List.set_cons_zero, List.set_cons_succ]
          refine wpAnyH_take (i := 1) (v := .slice (some ⟨w.heap.size + 1 + 1, 0, none⟩) C C) rfl (by kernel_rfl) (by kernel_rfl) (by kernel_rfl) (fun _ _ _ h => h) (Or.inl ⟨by rfl, fun w hSw => by have s1 := hSw; go_simp⟩) hS ?_
          simp only [Act.put, List.getElem_toArray, List.getElem_cons_succ, List.getElem_cons_zero, List.setIfInBounds_toArray, List.set_cons_zero, List.set_cons_succ]
          refine wpAnyH_take (i := 2) (v := .int .i64 (i : Int)) rfl (by kernel_rfl) (by kernel_rfl) (by kernel_rfl) (fun _ _ _ h => h) (Or.inl ⟨by rfl, fun w hSw => by have s1 := hSw; go_simp⟩) hS ?_
          simp only [Act.put, List.getElem_toArray, List.getElem_cons_succ, List.getElem_cons_zero, List.setIfInBounds_toArray, List.set_cons_zero, List.set_cons_succ]
          refine wpAnyH_take (i := 3) (v := .int .i64 (C : Int)) rfl (by kernel_rfl) (by kernel_rfl) (by kernel_rfl) (fun _ _ _ h => h) (Or.inl ⟨by rfl, fun w hSw => by have s1 := hSw; go_simp⟩) hS ?_
          simp only [Act.put, List.getElem_toArray, List.getElem_cons_succ, List.getElem_cons_zero, List.setIfInBounds_toArray, List.set_cons_zero, List.set_cons_succ]
          refine wpAnyH_take (i := 4) (v := .int .i64 (k : Int)) rfl (by kernel_rfl) (by kernel_rfl) (by kernel_rfl) (fun _ _ _ h => h) (Or.inl ⟨by rfl, fun w hSw => by have s1 := hSw; go_simp⟩) hS ?_
          simp only [Act.put, List.getElem_toArray, List.getElem_cons_succ, List.getElem_cons_zero, List.setIfInBounds_toArray, List.set_cons_zero, List.set_cons_succ]
          refine wpAnyH_take (i := 5) (v := .pointer (some ⟨w.heap.size + 1 + 1 + 1, 3, none⟩)) rfl (by kernel_rfl) (by kernel_rfl) (by kernel_rfl) (fun _ _ _ h => h) (Or.inl ⟨by rfl, fun w hSw => by have s1 := hSw; go_simp⟩) hS ?_
          simp only [Act.put, List.getElem_toArray, List.getElem_cons_succ, List.getElem_cons_zero, List.setIfInBounds_toArray, List.set_cons_zero, List.set_cons_succ]
          refine wpAnyH_take (i := 6) (v := .slice (some ⟨w.heap.size + 1 + 1, 0, none⟩) C C) rfl (by kernel_rfl) (by kernel_rfl) (by kernel_rfl) (fun _ _ _ h => h) (Or.inl ⟨by rfl, fun w hSw => by have s1 := hSw; go_simp⟩) hS ?_
          simp only [Act.put, List.getElem_toArray, List.getElem_cons_succ, List.getElem_cons_zero, List.setIfInBounds_toArray, List.set_cons_zero, List.set_cons_succ]
          refine wpAnyH_take (i := 7) (v := .int .i64 (i : Int)) rfl (by kernel_rfl) (by kernel_rfl) (by kernel_rfl) (fun _ _ _ h => h) (Or.inl ⟨by rfl, fun w hSw => by have s1 := hSw; go_simp⟩) hS ?_
          simp only [Act.put, List.getElem_toArray, List.getElem_cons_succ, List.getElem_cons_zero, List.setIfInBounds_toArray, List.set_cons_zero, List.set_cons_succ]
          refine wpAnyH_take (i := 8) (v := .int .i64 (C : Int)) rfl (by kernel_rfl) (by kernel_rfl) (by kernel_rfl) (fun _ _ _ h => h) (Or.inl ⟨by rfl, fun w hSw => by have s1 := hSw; go_simp⟩) hS ?_
          simp only [Act.put, List.getElem_toArray, List.getElem_cons_succ, List.getElem_cons_zero, List.setIfInBounds_toArray, List.set_cons_zero, List.set_cons_succ]
          refine wpAnyH_take (i := 9) (v := .int .i64 (k : Int)) rfl (by kernel_rfl) (by kernel_rfl) (by kernel_rfl) (fun _ _ _ h => h) (Or.inl ⟨by rfl, fun w hSw => by have s1 := hSw; go_simp⟩) hS ?_
          simp only [Act.put, List.getElem_toArray, List.getElem_cons_succ, List.getElem_cons_zero, List.setIfInBounds_toArray, List.set_cons_zero, List.set_cons_succ]
          refine wpAnyH_take (i := 10) (v := .pointer (some ⟨w.heap.size + 1 + 1, k, none⟩)) rfl (by kernel_rfl) (by kernel_rfl) (by kernel_rfl) (fun _ _ _ h => h) (Or.inl ⟨by rfl, fun w hSw => by have s1 := hSw; go_simp⟩) hS ?_
          simp only [Act.put, List.getElem_toArray, List.getElem_cons_succ, List.getElem_cons_zero, List.setIfInBounds_toArray, List.set_cons_zero, List.set_cons_succ]
          refine wpAnyH_take (i := 12) (v := .int .i64 x) rfl (by kernel_rfl) (by kernel_rfl) (by kernel_rfl) (fun _ _ _ h => h) (Or.inl ⟨by rfl, fun w hSw => by have s1 := hSw; go_simp⟩) hS ?_
          simp only [Act.put, List.getElem_toArray, List.getElem_cons_succ, List.getElem_cons_zero, List.setIfInBounds_toArray, List.set_cons_zero, List.set_cons_succ]
          refine wpAnyH_ready (rs := [11, 13]) (by kernel_rfl) (by simp) ?_
          refine AllReadyH.cons rfl (fun K hK => ?_) ?_
          · go_simp
            refine hK.out _ _ hS (fun hSa => ?_)
            clear hK K
            refine wpAnyH_ready (rs := [13]) (by kernel_rfl) (by simp) ?_
            refine AllReadyH.cons rfl (fun K hK => ?_) AllReadyH.nil
            go_simp
            refine hK.out _ _ ?_ (fun hSb => ?_)
            · exact sA
            clear hK K
            refine wpAnyH_ready (rs := [14]) (by kernel_rfl) (by simp) ?_
            refine AllReadyH.cons rfl (fun K hK => ?_) AllReadyH.nil
            refine step_append_src _ rfl (.tmp 126) (.tmp 128) 95 rfl (w.heap.size + 2) 3 i3 (.int .i64 0) 8 Tryz.underlying95 H3.out.1 H3.out.2.1 H3.out.2.2.1 H3.out.2.2.2 rfl (.slice ua un uc) lk.length (intsC lk) rfl HOA.out (some ⟨w7.drew.heap.size, 0, none⟩) 1 1 [.int .i64 x] rfl (fun q => (by cases q)) rfl (fun ad q j y hj => one_cell q hj) (fun y hy => by rw [List.mem_singleton] at hy; subst hy; rfl) (by have := HLK.out; simp only [maxLen]; omega) (by have := HLK.out; omega) (by have := HSZ.out; simp at this ⊢; omega) ?_
            intro v8 w8 ho8 hg8 hb8
            obtain ⟨va, vn, vc, rfl⟩ := owns_shape ho8.out
            obtain ⟨C81, C82, C83, C84⟩ := HPU.out _ _ hg8.out ho8.out hb8.out
            have HC8 : Hid (Up w false false rate (C : Int) wd C (vs.set k (.slice va vn vc)) (xs.set k (lk ++ [x])) (w8.setCell ⟨w.heap.size + 1 + 1, k, none⟩ (.slice va vn vc))) := C84
            refine hK.out _ _ C81 (fun hS8 => ?_)
            clear hK K C84
            refine wpAnyH_take (i := 15) (v := .pointer (some ⟨w.heap.size + 1 + 1, k, none⟩)) rfl (by kernel_rfl) (by kernel_rfl) (by kernel_rfl) (fun _ _ _ h => h) (Or.inl ⟨by rfl, fun w hSw => by have s1 := hSw; go_simp⟩) hS8 ?_
            simp only [Act.put, List.getElem_toArray, List.getElem_cons_succ, List.getElem_cons_zero, List.setIfInBounds_toArray, List.set_cons_zero, List.set_cons_succ]
            refine wpAnyH_ready (rs := [16]) (by kernel_rfl) (by simp) ?_
            refine AllReadyH.cons rfl (fun K hK => ?_) AllReadyH.nil
            go_simp
            refine hK.out _ _ HC8.out.q3 (fun hS9 => ?_)
            refine wpAnyH_done (by kernel_rfl) ?_ _
            clear hK K
            go_wp2_with fail
            go_roundw
            case rel => exact ⟨i + 1, by omega, by go_num, vs.set k (.slice va vn vc), by rw [HXS.out]; exact HC8.out, HSB.out⟩
            case measure => simp [intOf]; omega
          · refine AllReadyH.cons rfl (fun K hK => ?_) AllReadyH.nil
            go_simp
            refine hK.out _ _ ?_ (fun hSb => ?_)
            · exact sA
            clear hK K
            refine wpAnyH_ready (rs := [11]) (by kernel_rfl) (by simp) ?_
            refine AllReadyH.cons rfl (fun K hK => ?_) AllReadyH.nil
            go_simp
            refine hK.out _ _ hSb (fun hSc => ?_)
            clear hK K
            refine wpAnyH_ready (rs := [14]) (by kernel_rfl) (by simp) ?_
            refine AllReadyH.cons rfl (fun K hK => ?_) AllReadyH.nil
            refine step_append_src _ rfl (.tmp 126) (.tmp 128) 95 rfl (w.heap.size + 2) 3 i3 (.int .i64 0) 8 Tryz.underlying95 H3.out.1 H3.out.2.1 H3.out.2.2.1 H3.out.2.2.2 rfl (.slice ua un uc) lk.length (intsC lk) rfl HOA.out (some ⟨w7.drew.heap.size, 0, none⟩) 1 1 [.int .i64 x] rfl (fun q => (by cases q)) rfl (fun ad q j y hj => one_cell q hj) (fun y hy => by rw [List.mem_singleton] at hy; subst hy; rfl) (by have := HLK.out; simp only [maxLen]; omega) (by have := HLK.out; omega) (by have := HSZ.out; simp at this ⊢; omega) ?_
            intro v8 w8 ho8 hg8 hb8
            obtain ⟨va, vn, vc, rfl⟩ := owns_shape ho8.out
            obtain ⟨C81, C82, C83, C84⟩ := HPU.out _ _ hg8.out ho8.out hb8.out
            have HC8 : Hid (Up w false false rate (C : Int) wd C (vs.set k (.slice va vn vc)) (xs.set k (lk ++ [x])) (w8.setCell ⟨w.heap.size + 1 + 1, k, none⟩ (.slice va vn vc))) := C84
            refine hK.out _ _ C81 (fun hS8 => ?_)
            clear hK K C84
            refine wpAnyH_take (i := 15) (v := .pointer (some ⟨w.heap.size + 1 + 1, k, none⟩)) rfl (by kernel_rfl) (by kernel_rfl) (by kernel_rfl) (fun _ _ _ h => h) (Or.inl ⟨by rfl, fun w hSw => by have s1 := hSw; go_simp⟩) hS8 ?_
            simp only [Act.put, List.getElem_toArray, List.getElem_cons_succ, List.getElem_cons_zero, List.setIfInBounds_toArray, List.set_cons_zero, List.set_cons_succ]
            refine wpAnyH_ready (rs := [16]) (by kernel_rfl) (by simp) ?_
            refine AllReadyH.cons rfl (fun K hK => ?_) AllReadyH.nil
            go_simp
            refine hK.out _ _ HC8.out.q3 (fun hS9 => ?_)
            refine wpAnyH_done (by kernel_rfl) ?_ _
            clear hK K
            go_wp2_with fail
            go_roundw
            case rel => exact ⟨i + 1, by omega, by go_num, vs.set k (.slice va vn vc), by rw [HXS.out]; exact HC8.out, HSB.out⟩
            case measure => simp [intOf]; omega
    · have hie : i = K := by omega
      obtain ⟨HYE, HYP⟩ := HYS.out (fun j hj => HALL.out j (by omega))
      have HE : Hid (unpE s rate (C : Int) wd false false = 0) := HYE
      obtain ⟨xs, hxs⟩ : ∃ xs, upL s wd false false C i = xs := ⟨_, rfl⟩
      have HPE : Hid (unpP s rate (C : Int) wd false false = ⟨rate, (C : Int), wd, xs⟩) := by
        rw [← hie, hxs] at HYP
        exact HYP
      have HC : Hid (Up w false false rate (C : Int) wd C vs xs wr) := by
        have := HB.out
        rwa [hxs] at this
      have HLB : Hid (∀ k, k < xs.length → (xs.getD k []).length ≤ 17592186044415 ∧ ∀ n ∈ xs.getD k [], -9223372036854775808 ≤ n ∧ n ≤ 9223372036854775807) := fun k hk => by
        have hl := HC.out.len
        obtain ⟨g1, g2⟩ := upL_good s wd false false C i (fun j hj => HALL.out j hj) w1 w2 k (by omega)
        rw [hxs] at g1 g2
        exact ⟨by omega, g2⟩
      have e0 := HC.out.qc 0 (.int .i64 rate) rfl
      have e1 := HC.out.qc 1 (.int .i64 (C : Int)) rfl
      have e2 := HC.out.qc 2 (.int .i64 wd) rfl
      have e3 := HC.out.qc 3 (.slice (some ⟨w.heap.size + 1 + 1, 0, none⟩) C C) rfl
      have r0 := HC.out.r0
      have r1' := HC.out.r1
      have r2' := HC.out.r2
      have r3 := HC.out.r3
      have z0 := HC.out.z 0
      have z1 := HC.out.z 1
      have z2 := HC.out.z 2
      have z3 := HC.out.z 3
      clear HYE HYP hxs HB HALL HYS HNO
      go_wp2_with fail
      generalize hwf : (((wr.setCell ⟨w.heap.size + 1, 0, none⟩ (.int .i64 rate)).setCell ⟨w.heap.size + 1, 1, none⟩ (.int .i64 (C : Int))).setCell ⟨w.heap.size + 1, 2, none⟩ (.int .i64 wd)).setCell ⟨w.heap.size + 1, 3, none⟩ (.slice (some ⟨w.heap.size + 1 + 1, 0, none⟩) C C) = wf
      have hrow : wf.heap[w.heap.size + 1]? = some (.cells #[.int .i64 rate, .int .i64 (C : Int), .int .i64 wd, .slice (some ⟨w.heap.size + 1 + 1, 0, none⟩) C C] 24 (0, 0)) := by
        rw [← hwf, block_set _ _ _ _ _ _ (block_set _ _ _ _ _ _ (block_set _ _ _ _ _ _ (block_set _ _ _ _ _ _ HC.out.res)))]
        rfl
      have hbel : Below w.heap.size w wf := by
        rw [← hwf]
        exact (((HC.out.below.setCell (by simp) _).setCell (by simp) _).setCell (by simp) _).setCell (by simp) _
      have hmat : OwnMat 95 (w.heap.size + 2) wf (.slice (some ⟨w.heap.size + 1 + 1, 0, none⟩) C C) vs xs := by
        rw [← hwf]
        exact (((HC.out.mat.setOther (by simp) _).setOther (by simp) _).setOther (by simp) _).setOther (by simp) _
      obtain ⟨ao2, cap2, hv2, hrows2, hfr2⟩ := hmat.rows (by have := HC.out.len; omega) HLB.out
      have hlen := HC.out.len
      rw [hlen] at hv2
      cases hv2
      refine bodyPost_ret (v := .tuple #[.agg #[.int .i64 rate, .int .i64 (C : Int), .int .i64 wd, .slice (some ⟨w.heap.size + 1 + 1, 0, none⟩) C C], .int .i64 0]) ?_ rfl ⟨some ⟨w.heap.size + 1 + 1, 0, none⟩, C, by rw [HPE.out, HE.out]; show _ = _; unfold pcmV pcmC; rw [hlen], by rw [HPE.out]; exact hrows2, by rw [HPE.out]; exact hfr2.mono (Nat.le_add_right _ _), hbel⟩
      rw [results_two rfl]
      have hld := run_loadVar_row (P := Tryz.prog) wf (w.heap.size + 1) 24 24 _ (0, 0) _ hrow Tryz.underlying24 rfl infoP
      simp [asAddr, Result.andThen, hld]

end Go.Proofs.YtaepgjheknkojaaGreat
