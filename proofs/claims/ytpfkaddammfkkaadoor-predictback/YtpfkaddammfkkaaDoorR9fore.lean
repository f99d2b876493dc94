/- Own text: the document's foretold; lists that are the same. -/
import Derived.Test.YtpfkaddammfkkaaDoorP9mem
namespace Go.Proofs.YtpfkaddammfkkaaDoor
open Go.RowKit
set_option linter.unusedSimpArgs false
set_option linter.unusedVariables false
set_option maxRecDepth 20000 in
set_option maxHeartbeats 3200000 in
theorem ints_same (l : List Int) (a b : Option Addr) (c d : Nat) (w : World) (hl : IntsAt w a l) (hm : IntsAt w b l) :
    Calls Tryd.prog 36 #[.slice a l.length c, .slice b l.length d] w fun e w' => e = .returned (.bool true) ∧ ∃ n, w' = w.drewN n := by
  have h1 := hl.len
  have HL : Hid (IntsAt w a l) := hl
  have HM : Hid (IntsAt w b l) := hm
  clear hl hm
  go_enter Tryd.func36, Tryd.ntmps36
  go_wp2_with fail
  go_loopw [5] (fun t wr => ∃ k n : Nat, k ≤ l.length ∧ t = .int .i64 (k : Int) ∧ wr = w.drewN n) (fun t _ => l.length - (intOf t).toNat)
  case atStart => exact ⟨0, 0, Nat.zero_le _, rfl, rfl⟩
  case round =>
    obtain ⟨k, n, hk, rfl, hw⟩ := hrel
    have HW : Hid (wr = w.drewN n) := hw
    clear hw
    by_cases hlt : k < l.length
    · obtain ⟨b1, o1, rfl, q1⟩ := HL.out.at k hlt
      obtain ⟨b2, o2, rfl, q2⟩ := HM.out.at k hlt
      have r1 := q1 wr (by rw [HW.out]; exact below_drewN _ _)
      have r2 := q2 wr (by rw [HW.out]; exact below_drewN _ _)
      clear q1 q2
      generalize l.getD k 0 = x at *
      go_wp2_with fail
      go_quiet (fail)
      go_wp2_with fail
      go_roundw
      case rel => exact ⟨k + 1, n + nq, by omega, by go_num, by rw [HW.out, World.drewN_drewN]⟩
      case measure => simp [intOf]; omega
    · go_wp2_with fail
      go_ret
      exact ⟨rfl, n, HW.out⟩
theorem same_same (l : List Int) (a b : Option Addr) (c d : Nat) (w : World) (hl : IntsAt w a l) (hm : IntsAt w b l) :
    Calls Tryd.prog 13 #[.slice a l.length c, .slice b l.length d] w fun e w' => e = .returned (.bool true) ∧ ∃ n, w' = w.drewN n := by
  have ki := ints_same l a b c d w hl hm
  clear hl hm
  go_enter Tryd.func13, Tryd.ntmps13
  go_wp2_with fail
  refine ki.mono ?_
  rintro e w2 ⟨rfl, n, rfl⟩
  generalize hw2 : w.drewN n = w2
  have HW : Hid (w2 = w.drewN n) := hw2.symm
  clear hw2
  go_wp2_with fail
  go_ret
  exact ⟨rfl, n, HW.out⟩
set_option maxRecDepth 20000 in
set_option maxHeartbeats 3200000 in
theorem xfore_spec (C l : List Int) (ca la : Option Addr) (cc lc : Nat) (sh a : Nat) (hsh : sh ≤ 31) (hCa : C.length ≤ a) (hal : a ≤ l.length) (w : World) (hC : IntsAt w ca C) (hl : IntsAt w la l) :
    Calls Tryd.prog 48 #[.slice ca C.length cc, .int .i64 (sh : Int), .slice la l.length lc, .int .i64 (a : Int)] w fun e w' => e = .returned (.int .i64 (foreN C sh l a)) ∧ ∃ n, w' = w.drewN n := by
  have h1 := hl.len
  have HC : Hid (IntsAt w ca C) := hC
  have HL : Hid (IntsAt w la l) := hl
  have HF : Hid (foreN C sh l a = foreS C l a C.length / 2 ^ sh) := rfl
  clear hC hl
  go_enter Tryd.func48, Tryd.ntmps48
  go_wp2_with fail
  go_loopw [9, 10] (fun s t wr => ∃ k n : Nat, k ≤ C.length ∧ t = .int .i64 (k : Int) ∧ s = .int .i64 (foreS C l a k) ∧ wr = w.drewN n) (fun _ t _ => C.length - (intOf t).toNat)
  case atStart => exact ⟨0, 0, Nat.zero_le _, rfl, rfl, rfl⟩
  case round =>
    obtain ⟨k, n, hk, rfl, rfl, hw⟩ := hrel
    have HW : Hid (wr = w.drewN n) := hw
    have hfr := foreS_rng C l a k
    clear hw
    by_cases hlt : k < C.length
    · obtain ⟨b1, o1, rfl, q1⟩ := HC.out.at k hlt
      obtain ⟨b2, o2, rfl, q2⟩ := HL.out.at (a - 1 - k) (by omega)
      have r1 := q1 wr (by rw [HW.out]; exact below_drewN _ _)
      have r2 := q2 wr (by rw [HW.out]; exact below_drewN _ _)
      have HN : Hid (foreS C l a (k + 1) = wrap64 (foreS C l a k + wrap64 (C.getD k 0 * l.getD (a - 1 - k) 0))) := rfl
      have hix : (a : Int) - 1 - (k : Int) = ((a - 1 - k : Nat) : Int) := by omega
      have hil : a - 1 - k < l.length := by omega
      clear q1 q2
      generalize C.getD k 0 = x at *
      generalize l.getD (a - 1 - k) 0 = y at *
      generalize a - 1 - k = ix at *
      generalize foreS C l a k = su at *
      go_wp2_with fail
      go_quiet (fail)
      go_wp2_with fail
      go_roundw
      case rel => exact ⟨k + 1, n + nq, by omega, by go_num, by rw [HN.out], by rw [HW.out, World.drewN_drewN]⟩
      case measure => simp [intOf]; omega
    · have hke : k = C.length := by omega
      subst hke
      generalize foreS C l a C.length = su at *
      have hs2 : (sh : Int) ≤ 31 := by omega
      go_wp2_with fail
      go_ret
      exact ⟨by rw [HF.out]; rfl, n, HW.out⟩

end Go.Proofs.YtpfkaddammfkkaaDoor
