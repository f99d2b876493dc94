/- Own text: the document's Wasted. -/
import Derived.Test.YtpfkaddammfkkaaDoorR9div
namespace Go.Proofs.YtpfkaddammfkkaaDoor
open Go.RowKit
set_option linter.unusedSimpArgs false
set_option linter.unusedVariables false
set_option maxRecDepth 20000 in
set_option maxHeartbeats 3200000 in
theorem xwasted_spec (l : List Int) (la : Option Addr) (lc : Nat) (w : World) (hl : IntsAt w la l) : Calls Tryd.prog 24 #[.slice la l.length lc] w fun e w' => e = .returned (.int .i64 (wasN l : Int)) ∧ w' = w := by
  have h1 := hl.len
  have HL : Hid (IntsAt w la l) := hl
  have KD : Hid (∀ k : Nat, k ≤ 31 → Calls Tryd.prog 41 #[.slice la l.length lc, .int .i64 (k : Int)] w fun e w' => e = .returned (.bool (dvB l k)) ∧ w' = w) := fun k hk => xdiv_spec l k hk la lc w hl
  clear hl
  go_enter Tryd.func24, Tryd.ntmps24
  go_wp2_with fail
  go_loopw [3, 4] (fun s t wr => ∃ i : Nat, i ≤ l.length ∧ t = .int .i64 (i : Int) ∧ s = .bool (!zerB (l.take i)) ∧ wr = w) (fun _ t _ => l.length - (intOf t).toNat)
  case atStart => exact ⟨0, Nat.zero_le _, rfl, rfl, rfl⟩
  case round =>
    obtain ⟨i, hi, rfl, rfl, rfl⟩ := hrel
    by_cases hlt : i < l.length
    · obtain ⟨b1, o1, rfl, q1⟩ := HL.out.at i hlt
      have r1 := q1 wr (Below.refl _ _)
      clear q1
      have HN : Hid (zerB (l.take (i + 1)) = (zerB (l.take i) && (l.getD i 0 == 0))) := by
        show _ = _
        rw [← take_next l i hlt]
        unfold zerB
        rw [List.all_append]
        simp
      generalize l.getD i 0 = x at *
      generalize zerB (l.take i) = zb at *
      cases zb with
      | false =>
        go_wp2_with fail
        go_roundw
        case rel => exact ⟨i + 1, by omega, by go_num, by rw [HN.out]; rfl, by trivial⟩
        case measure => simp [intOf]; omega
      | true =>
        by_cases h0 : x = 0
        · have hbn : (x != 0) = false := by rw [bne_eq_false_iff_eq]; exact h0
          have HN2 : Hid (zerB (l.take (i + 1)) = true) := by show _ = _; rw [HN.out, h0]; rfl
          go_wp2_with fail
          go_roundw
          case rel => exact ⟨i + 1, by omega, by go_num, by rw [HN2.out]; rfl, by trivial⟩
          case measure => simp [intOf]; omega
        · have hbn : (x != 0) = true := by rw [bne_iff_ne]; exact h0
          have HN2 : Hid (zerB (l.take (i + 1)) = false) := by
            show _ = _
            rw [HN.out, show (x == 0) = false from by rw [beq_eq_false_iff_ne]; exact h0]; rfl
          go_wp2_with fail
          go_roundw
          case rel => exact ⟨i + 1, by omega, by go_num, by rw [HN2.out]; rfl, by trivial⟩
          case measure => simp [intOf]; omega
    · have hie : i = l.length := by omega
      subst hie
      obtain ⟨w9, hw9⟩ : ∃ w9, w9 = wr := ⟨_, rfl⟩
      subst hw9
      have hta : l.take l.length = l := List.take_of_length_le (Nat.le_refl _)
      rw [hta]
      cases hz : zerB l with
      | true =>
        have HW0 : Hid (wasN l = 0) := by show _ = _; unfold wasN; rw [if_pos hz]
        clear hz hta
        simp only [Bool.not_false, Bool.not_true]
        go_wp2_with fail
        go_loopw [5] (fun t wy => t = .int .i64 0 ∧ wy = w9) (fun _ _ => 0)
        case atStart => exact ⟨rfl, rfl⟩
        case round =>
          obtain ⟨rfl, rfl⟩ := hrel
          go_wp2_with fail
          go_ret
          exact ⟨by rw [HW0.out]; rfl, rfl⟩
      | false =>
        have HWK : Hid (wasN l = wasK l 31) := by show _ = _; unfold wasN; rw [if_neg (by rw [hz]; decide)]
        clear hz hta
        simp only [Bool.not_false, Bool.not_true]
        go_wp2_with fail
        go_loopw [5] (fun t wy => ∃ n : Nat, n ≤ 31 ∧ t = .int .i64 (n : Int) ∧ dvB l n = true ∧ wy = w9) (fun t _ => 31 - (intOf t).toNat)
        case atStart => exact ⟨0, by omega, rfl, dvB_zero l, by trivial⟩
        case round =>
          obtain ⟨n, hn, rfl, hdv, hwe⟩ := hrel
          have HDV : Hid (dvB l n = true) := hdv
          clear hdv
          subst hwe
          by_cases hn31 : n < 31
          · have kd := KD.out (n + 1) (by omega)
            have hcast : ((n + 1 : Nat) : Int) = (n : Int) + 1 := by omega
            rw [hcast] at kd
            cases hq : dvB l (n + 1) with
            | true =>
              have HQ : Hid (dvB l (n + 1) = true) := hq
              rw [hq] at kd
              clear hq hcast
              go_wp2_with fail
              refine kd.mono ?_
              rintro e w2 ⟨rfl, rfl⟩
              go_wp2_with fail
              go_roundw
              case rel => exact ⟨n + 1, by omega, by go_num, HQ.out, by trivial⟩
              case measure => simp [intOf]; omega
            | false =>
              have HW0 : Hid (wasN l = n) := by show _ = _; rw [HWK.out]; exact wasK_is l n 31 hn HDV.out (Or.inr hq)
              rw [hq] at kd
              clear hq hcast
              go_wp2_with fail
              refine kd.mono ?_
              rintro e w2 ⟨rfl, rfl⟩
              go_wp2_with fail
              go_ret
              exact ⟨by rw [HW0.out]; rfl, by trivial⟩
          · have hne : n = 31 := by omega
            subst hne
            have HW0 : Hid (wasN l = 31) := by show _ = _; rw [HWK.out]; exact wasK_is l 31 31 hn HDV.out (Or.inl rfl)
            go_wp2_with fail
            go_ret
            exact ⟨by rw [HW0.out]; rfl, by trivial⟩

end Go.Proofs.YtpfkaddammfkkaaDoor
