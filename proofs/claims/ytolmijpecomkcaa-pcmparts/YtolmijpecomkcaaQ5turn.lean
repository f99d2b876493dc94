/- Own text: the walk of the program's inTurn, whatever it does. -/
import Derived.Test.YtolmijpecomkcaaQ5even
namespace Go.Proofs.Ytolmijpecomkcaa
open Go.RowKit
set_option linter.unusedSimpArgs false
set_option linter.unusedVariables false

/-- Planes that are all as long, gone through place by place, plane by plane: what holds at the t-th sample, and how it ends. -/
structure Turn (b off n c : Nat) (ra : Nat → Option Addr) (rc : Nat → Nat) (g : Nat) (cb : Array Value) (I : Nat → World → Prop) (J : World → Prop) : Prop where
  head : ∀ t wx, I t wx → ∀ k, k < c → wx.cell? ⟨b, off + k, none⟩ = some (.slice (ra k) n (rc k))
  addr : 0 < n → ∀ k, k < c → ∃ b' o', ra k = some ⟨b', o', none⟩
  step : ∀ i k wx, i < n → k < c → I (i * c + k) wx → ∀ b' o', ra k = some ⟨b', o', none⟩ → Calls Try.prog g (#[.pointer (Option.some ⟨b', o' + i, none⟩)] ++ cb) wx fun e w' => (e = .returned (.bool true) ∧ I (i * c + k + 1) w') ∨ (e = .returned (.bool false) ∧ J w')

set_option maxRecDepth 20000 in
set_option maxHeartbeats 3200000 in
theorem inTurn_spec (b off n c cap : Nat) (ra : Nat → Option Addr) (rc : Nat → Nat) (g : Nat) (cb : Array Value) (I : Nat → World → Prop) (J : World → Prop)
    (eg : ∀ args w, (callFunc g args).run Try.prog w = .ok (.enter g args) w) (hT : Turn b off n c ra rc g cb I J) (hc : 1 ≤ c) (hc8 : c ≤ 8) (hn : n ≤ 17592186044415) (w : World) (hI : I 0 w) :
    Calls Try.prog 26 #[.slice (some ⟨b, off, none⟩) c cap, .func (.func g) #[] cb] w fun e w' => (e = .returned (.bool true) ∧ I (n * c) w') ∨ (e = .returned (.bool false) ∧ J w') := by
  have HT : Hid (Turn b off n c ra rc g cb I J) := hT
  have h0 := hT.head 0 w hI 0 (by omega)
  rw [Nat.add_zero] at h0
  have HI : Hid (I 0 w) := hI
  clear hT hI
  have hcb : ((c : Int) == 0) = false := by rw [beq_eq_false_iff_ne]; omega
  go_enter Try.func26, Try.ntmps26
  go_wp2_with fail
  clear h0
  go_loopw [5, 7, 15, 20] (fun s5 s7 s15 s20 wr => ∃ i : Nat, i ≤ n ∧ s15 = .int .i64 (i : Int) ∧ I (i * c) wr) (fun _ _ t _ _ => n - (intOf t).toNat)
  case atStart => exact ⟨0, Nat.zero_le _, rfl, by rw [Nat.zero_mul]; exact HI.out⟩
  case round =>
    clear HI
    obtain ⟨i, hi, rfl, hIi⟩ := hrel
    have HI : Hid (I (i * c) wr) := hIi
    clear hIi
    by_cases hlt : i < n
    · go_wp2_with fail
      go_loopw [7, 20] (fun s7 s20 wr' => ∃ k : Nat, k ≤ c ∧ s20 = .int .i64 (k : Int) ∧ I (i * c + k) wr') (fun _ t _ => c - (intOf t).toNat)
      case atStart => exact ⟨0, Nat.zero_le _, rfl, HI.out⟩
      case round =>
        clear HI
        obtain ⟨k, hk, rfl, hIk⟩ := hrel
        by_cases hkl : k < c
        · have hhd := HT.out.head _ _ hIk k hkl
          obtain ⟨b', o', hra⟩ := HT.out.addr (by omega) k hkl
          rw [hra] at hhd
          have ks := HT.out.step i k _ hlt hkl hIk b' o' hra
          clear hIk hra
          go_wp2_with (go_at_fn g; refine ks.mono ?_; rintro e w4 (⟨rfl, h4⟩ | ⟨rfl, h4⟩))
          · go_roundw
            case rel => exact ⟨k + 1, by omega, by go_num, h4⟩
            case measure => simp [intOf]; omega
          · go_ret
            exact Or.inr ⟨rfl, h4⟩
        · have hkc : k = c := by omega
          have HK : Hid (I (i * c + c) wr) := by
            rw [hkc] at hIk
            exact hIk
          clear hIk hkc
          go_wp2_with fail
          go_roundw
          case rel => exact ⟨i + 1, by omega, by go_num, by rw [Nat.succ_mul]; exact HK.out⟩
          case measure => simp [intOf]; omega
    · have hin : i = n := by omega
      have HN : Hid (I (n * c) wr) := by rw [← hin]; exact HI.out
      clear HI hin
      go_wp2_with fail
      go_ret
      exact Or.inl ⟨rfl, HN.out⟩

end Go.Proofs.Ytolmijpecomkcaa
