/- Own text: the walks of the document's cuesheet and picture. -/
import Derived.Test.YtfmpiidnemhijaaDoorQ13take
import Derived.Deep.Cut
namespace Go.Proofs.YtfmpiidnemhijaaDoor
open Go.RowKit
set_option linter.unusedSimpArgs false
set_option linter.unusedVariables false

set_option maxRecDepth 20000 in
set_option maxHeartbeats 3200000 in
theorem xcue_any (s : ByteArray) (hs : s.size ≤ 140737488351232) (w : World) :
    Calls Tryd.prog 28 #[.string s] w fun e w' => e = .returned (.bool (cueB s)) ∧ w' = w := by
  have hC : cueB s = (decide (396 ≤ s.size) && (decide (1 ≤ numA s 395 1 ∧ numA s 395 1 ≤ 100) && trkB s (numA s 395 1) 396)) := rfl
  by_cases h396 : s.size < 396
  · have HE : Hid (cueB s = false) := hC.trans (by rw [decide_eq_false (by omega : ¬ 396 ≤ s.size), Bool.false_and])
    have h3 : (s.size : Int) < 396 := by omega
    clear hC
    go_enter Tryd.func28, Tryd.ntmps28
    go_wp2_with fail
    go_ret
    exact ⟨by rw [HE.out]; rfl, rfl⟩
  · have hi : 395 < s.size := by omega
    have hi3 : (395 : Int) < (s.size : Int) := by omega
    have h3 : (396 : Int) ≤ (s.size : Int) := by omega
    have hn := numA_one s 395 hi
    have hv : (s[395]'hi).toNat < 256 := (s[395]'hi).toNat_lt
    rw [decide_eq_true (by omega : 396 ≤ s.size), Bool.true_and, hn] at hC
    have HIX : Hid (∀ a (h : a < s.size), numA s a 1 = (s[a]'h).toNat) := fun a h => numA_one s a h
    clear h396 hn
    by_cases hT : 1 ≤ (s[395]'hi).toNat ∧ (s[395]'hi).toNat ≤ 100
    · have HC : Hid (cueB s = trkB s (s[395]'hi).toNat 396) := hC.trans (by rw [decide_eq_true hT, Bool.true_and])
      obtain ⟨t1, t2⟩ := hT
      clear hC
      go_enter Tryd.func28, Tryd.ntmps28
      go_wp2_with fail
      go_loop [3, 4] (fun p i => ∃ (k a : Nat), k ≤ (s[395]'hi).toNat ∧ i = .int .i64 (k : Int) ∧ p = .int .i64 (a : Int) ∧ a ≤ s.size + 4000 ∧ trkB s (s[395]'hi).toNat 396 = trkB s ((s[395]'hi).toNat - k) a) (fun _ i => (s[395]'hi).toNat - (intOf i).toNat)
      case atStart => exact ⟨0, 396, Nat.zero_le _, rfl, rfl, by omega, rfl⟩
      case round =>
        obtain ⟨k, a, hk, rfl, rfl, ha, ho⟩ := hrel
        have HO : Hid (trkB s (s[395]'hi).toNat 396 = trkB s ((s[395]'hi).toNat - k) a) := ho
        clear ho
        by_cases hlt : k < (s[395]'hi).toNat
        · have HO2 : Hid (cueB s = if s.size < a + 36 then false else trkB s ((s[395]'hi).toNat - (k + 1)) (a + 36 + 12 * numA s (a + 35) 1)) := HC.out.trans (HO.out.trans (by rw [show (s[395]'hi).toNat - k = ((s[395]'hi).toNat - (k + 1)) + 1 by omega]; rfl))
          clear HO
          by_cases h36 : s.size < a + 36
          · have HE : Hid (cueB s = false) := HO2.out.trans (if_pos h36)
            clear HO2
            go_wp2_with fail
            go_ret
            exact ⟨by rw [HE.out]; rfl, rfl⟩
          · have hx : a + 35 < s.size := by omega
            have hw : (s[a + 35]'hx).toNat < 256 := (s[a + 35]'hx).toNat_lt
            have HO3 : Hid (trkB s (s[395]'hi).toNat 396 = trkB s ((s[395]'hi).toNat - (k + 1)) (a + 36 + 12 * (s[a + 35]'hx).toNat)) := by
              have h1 := HO2.out
              rw [if_neg h36, HIX.out (a + 35) hx, HC.out] at h1
              exact h1
            clear HO2
            go_wp2_with fail
            go_round
            case rel => exact ⟨k + 1, a + 36 + 12 * (s[a + 35]'hx).toNat, by omega, by go_num, by go_num, by omega, HO3.out⟩
            case measure => simp [intOf]; omega
        · have HE : Hid (cueB s = ((s.size : Int) == (a : Int))) := HC.out.trans (HO.out.trans (by
            rw [show (s[395]'hi).toNat - k = 0 by omega]
            show decide (s.size = a) = _
            rw [Bool.eq_iff_iff, beq_iff_eq, decide_eq_true_iff]
            omega))
          clear HO
          go_wp2_with fail
          go_ret
          exact ⟨by rw [HE.out]; rfl, rfl⟩
    · have HE : Hid (cueB s = false) := hC.trans (by rw [decide_eq_false hT, Bool.false_and])
      have hT2 : (((s[395]'hi).toNat : Int) < 1) ∨ (1 ≤ ((s[395]'hi).toNat : Int) ∧ 100 < ((s[395]'hi).toNat : Int)) := by omega
      clear hC hT
      rcases hT2 with h | ⟨h, h'⟩
      all_goals
        go_enter Tryd.func28, Tryd.ntmps28
        go_wp2_with fail
        go_ret
        exact ⟨by rw [HE.out]; rfl, rfl⟩
/-- A picture's texts from a place on, so many. -/
def picR (s : ByteArray) : Nat → Nat → Bool
  | 0, a => decide (s.size = a)
  | r + 1, a => match txtA s (if r = 0 then a + 16 else a) with
    | none => false
    | some b => picR s r b
theorem picR_all (s : ByteArray) : picB s = picR s 3 4 := by
  unfold picB picR
  rw [if_neg (by decide)]
  cases txtA s 4 with
  | none => rfl
  | some a =>
    simp only []
    unfold picR
    rw [if_neg (by decide)]
    cases txtA s a with
    | none => rfl
    | some b =>
      simp only []
      unfold picR
      rw [if_pos rfl]
      cases txtA s (b + 16) with
      | none => rfl
      | some c =>
        show decide (c = s.size) = decide (s.size = c)
        rw [decide_eq_decide]
        omega
set_option maxRecDepth 20000 in
set_option maxHeartbeats 3200000 in
theorem xpic_any (s : ByteArray) (hs : s.size ≤ 140737488351232) (w : World) :
    Calls Tryd.prog 29 #[.string s] w fun e w' => e = .returned (.bool (picB s)) ∧ w' = w := by
  have HP : Hid (picB s = picR s 3 4) := picR_all s
  go_enter Tryd.func29, Tryd.ntmps29
  go_wp2_with fail
  go_loop [3, 4, 5] (fun q t _ => ∃ (i a r : Nat), i + r = 3 ∧ t = .int .i64 (i : Int) ∧ q = .int .i64 (a : Int) ∧ a ≤ 150000000000000 ∧ picB s = picR s r a) (fun _ t _ => 3 - (intOf t).toNat)
  case atStart => exact ⟨0, 4, 3, rfl, rfl, rfl, by omega, HP.out⟩
  case round =>
    obtain ⟨i, a, r', hir, rfl, rfl, ha, ho⟩ := hrel
    have HO : Hid (picB s = picR s r' a) := ho
    clear ho HP
    by_cases hlt : i < 3
    · obtain ⟨r, rfl⟩ : ∃ r, r' = r + 1 := ⟨r' - 1, by omega⟩
      have HO1 : Hid (picB s = match txtA s (if r = 0 then a + 16 else a) with | none => false | some b => picR s r b) := HO.out
      clear HO
      by_cases h2 : r = 0
      · have hi2 : ((i : Int) == 2) = true := by rw [beq_iff_eq]; omega
        obtain ⟨p, hp⟩ : ∃ p, p = a + 16 := ⟨_, rfl⟩
        have HO2 : Hid (picB s = match txtA s p with | none => false | some b => picR s r b) := HO1.out.trans (by rw [if_pos h2, hp])
        have hpa : (a : Int) + 16 = (p : Int) := by omega
        have hple : p ≤ 150000000000016 := by omega
        have HPA : Hid ((a : Int) + 16 = (p : Int)) := hpa
        clear HO1 hp ha
        go_upto_region 7 with fail
        clear hpa HPA
        have hx : (p : Int) + 4 = ((p + 4 : Nat) : Int) := by omega
        by_cases g4 : p + 4 ≤ s.size
        · have hsl := slice_run s p (p + 4) (by omega) g4
          have kf := fun w => S2.reffromBe_spec (s.extract p (p + 4)) (by have := ext_le s p (p + 4); omega) w
          rw [numA_be s p 4 (by decide)] at kf
          have hv := numA_lt s p 4 (by decide)
          have h256 : (256 : Nat) ^ 4 = 4294967296 := by decide
          have hv : numA s p 4 < 4294967296 := by omega
          have HT : Hid (txtA s p = if p + 4 + numA s p 4 ≤ s.size then some (p + 4 + numA s p 4) else none) := by
            show _ = _
            unfold txtA
            by_cases q : p + 4 + numA s p 4 ≤ s.size
            · rw [if_pos q, if_pos ⟨g4, q⟩]
            · rw [if_neg q, if_neg (fun r => q r.2)]
          rw [← hx] at hsl
          generalize numA s p 4 = v at *
          generalize s.extract p (p + 4) = X at *
          have g4i : (p : Int) + 4 ≤ (s.size : Int) := by omega
          clear h256 hx
          by_cases gv : p + 4 + v ≤ s.size
          · have HN : Hid (picB s = picR s r (p + 4 + v)) := HO2.out.trans (by rw [HT.out, if_pos gv])
            have gvi : (v : Int) ≤ (s.size : Int) - ((p : Int) + 4) := by omega
            clear HT HO2
            go_wp2_with fail
            refine (kf w).mono ?_
            rintro e w1 ⟨rfl, hw1⟩
            subst hw1
            clear kf
            go_wp2_with fail
            go_round
            case rel => exact ⟨i + 1, p + 4 + v, r, by omega, by go_num, by go_num, by omega, HN.out⟩
            case measure => simp [intOf]; omega
          · have HN : Hid (picB s = false) := HO2.out.trans (by rw [HT.out, if_neg gv])
            have gvi : (s.size : Int) - ((p : Int) + 4) < (v : Int) := by omega
            clear HT HO2
            go_wp2_with fail
            refine (kf w).mono ?_
            rintro e w1 ⟨rfl, hw1⟩
            subst hw1
            clear kf
            go_wp2_with fail
            go_ret
            exact ⟨by rw [HN.out]; rfl, rfl⟩
        · have HN : Hid (picB s = false) := HO2.out.trans (by rw [txtA_past s p (by omega)])
          have g4i : (s.size : Int) < (p : Int) + 4 := by omega
          clear HO2 hx
          go_wp2_with fail
          go_ret
          exact ⟨by rw [HN.out]; rfl, rfl⟩
      · have hi2 : ((i : Int) == 2) = false := by rw [beq_eq_false_iff_ne]; omega
        obtain ⟨p, hp⟩ : ∃ p, p = a := ⟨_, rfl⟩
        have HO2 : Hid (picB s = match txtA s p with | none => false | some b => picR s r b) := HO1.out.trans (by rw [if_neg h2, hp])
        have hple : p ≤ 150000000000016 := by omega
        subst hp
        clear HO1 ha
        have hx : (p : Int) + 4 = ((p + 4 : Nat) : Int) := by omega
        by_cases g4 : p + 4 ≤ s.size
        · have hsl := slice_run s p (p + 4) (by omega) g4
          have kf := fun w => S2.reffromBe_spec (s.extract p (p + 4)) (by have := ext_le s p (p + 4); omega) w
          rw [numA_be s p 4 (by decide)] at kf
          have hv := numA_lt s p 4 (by decide)
          have h256 : (256 : Nat) ^ 4 = 4294967296 := by decide
          have hv : numA s p 4 < 4294967296 := by omega
          have HT : Hid (txtA s p = if p + 4 + numA s p 4 ≤ s.size then some (p + 4 + numA s p 4) else none) := by
            show _ = _
            unfold txtA
            by_cases q : p + 4 + numA s p 4 ≤ s.size
            · rw [if_pos q, if_pos ⟨g4, q⟩]
            · rw [if_neg q, if_neg (fun r => q r.2)]
          rw [← hx] at hsl
          generalize numA s p 4 = v at *
          generalize s.extract p (p + 4) = X at *
          have g4i : (p : Int) + 4 ≤ (s.size : Int) := by omega
          clear h256 hx
          by_cases gv : p + 4 + v ≤ s.size
          · have HN : Hid (picB s = picR s r (p + 4 + v)) := HO2.out.trans (by rw [HT.out, if_pos gv])
            have gvi : (v : Int) ≤ (s.size : Int) - ((p : Int) + 4) := by omega
            clear HT HO2
            go_wp2_with fail
            refine (kf w).mono ?_
            rintro e w1 ⟨rfl, hw1⟩
            subst hw1
            clear kf
            go_wp2_with fail
            go_round
            case rel => exact ⟨i + 1, p + 4 + v, r, by omega, by go_num, by go_num, by omega, HN.out⟩
            case measure => simp [intOf]; omega
          · have HN : Hid (picB s = false) := HO2.out.trans (by rw [HT.out, if_neg gv])
            have gvi : (s.size : Int) - ((p : Int) + 4) < (v : Int) := by omega
            clear HT HO2
            go_wp2_with fail
            refine (kf w).mono ?_
            rintro e w1 ⟨rfl, hw1⟩
            subst hw1
            clear kf
            go_wp2_with fail
            go_ret
            exact ⟨by rw [HN.out]; rfl, rfl⟩
        · have HN : Hid (picB s = false) := HO2.out.trans (by rw [txtA_past s p (by omega)])
          have g4i : (s.size : Int) < (p : Int) + 4 := by omega
          clear HO2 hx
          go_wp2_with fail
          go_ret
          exact ⟨by rw [HN.out]; rfl, rfl⟩
    · have hr0 : r' = 0 := by omega
      subst hr0
      have HE : Hid (picB s = ((s.size : Int) == (a : Int))) := HO.out.trans (by
        show decide (s.size = a) = _
        rw [Bool.eq_iff_iff, beq_iff_eq, decide_eq_true_iff]
        omega)
      clear HO
      go_wp2_with fail
      go_ret
      exact ⟨by rw [HE.out]; rfl, rfl⟩

end Go.Proofs.YtfmpiidnemhijaaDoor
