/- Own text: the program's areNear, areTwo, coded and uncoded. -/
import Derived.Test.YtpfkaddammfkkabDoorR9with
import Derived.Test.YtpfkaddammfkkabDoorP9fill
namespace Go.Proofs.YtpfkaddammfkkabDoor
open Go.RowKit
set_option linter.unusedSimpArgs false
set_option linter.unusedVariables false
set_option maxRecDepth 20000 in
set_option maxHeartbeats 3200000 in
theorem qnear_spec (l : List Int) (M : Int) (hM0 : 0 ≤ M) (hM : M ≤ 4398046511104) (la : Option Addr) (lc : Nat) (w : World) (hl : IntsAt w la l) : Calls Tryd.prog 23 #[.slice la l.length lc, .int .i64 M] w fun e w' => e = .returned (.bool (inB l M)) ∧ w' = w := by
  have h1 := hl.len
  have HL : Hid (IntsAt w la l) := hl
  have HDT : Hid (inB l M = true ↔ ∀ j, j < l.length → -M ≤ l.getD j 0 ∧ l.getD j 0 ≤ M) := by
    show _ ↔ _
    rw [inB_iff]
    constructor
    · intro h j hj
      refine h _ ?_
      rw [List.getD_eq_getElem?_getD, List.getElem?_eq_getElem hj]; exact List.getElem_mem hj
    · intro h n hn
      obtain ⟨j, hj, rfl⟩ := List.getElem_of_mem hn
      have := h j hj
      rw [List.getD_eq_getElem?_getD, List.getElem?_eq_getElem hj] at this
      exact this
  clear hl
  go_enter Tryd.func23, Tryd.ntmps23
  go_wp2_with fail
  go_loopw [6, 9] (fun s6 t wr => ∃ i : Nat, i ≤ l.length ∧ t = .int .i64 (i : Int) ∧ (∀ j, j < i → -M ≤ l.getD j 0 ∧ l.getD j 0 ≤ M) ∧ wr = w) (fun _ t _ => l.length - (intOf t).toNat)
  case atStart => exact ⟨0, Nat.zero_le _, rfl, fun j hj => absurd hj (Nat.not_lt_zero _), rfl⟩
  case round =>
    obtain ⟨i, hi, rfl, hall, rfl⟩ := hrel
    have HA : Hid (∀ j, j < i → -M ≤ l.getD j 0 ∧ l.getD j 0 ≤ M) := hall
    clear hall
    by_cases hlt : i < l.length
    · obtain ⟨b1, o1, rfl, q1⟩ := HL.out.at i hlt
      have r1 := q1 wr (Below.refl _ _)
      clear q1
      obtain ⟨x, hx⟩ : ∃ x, x = l.getD i 0 := ⟨_, rfl⟩
      have HXE : Hid (x = l.getD i 0) := hx
      rw [← hx] at r1
      clear hx
      have HF : Hid (¬ (-M ≤ x ∧ x ≤ M) → inB l M = false) := fun hne => by
        cases h : inB l M with
        | false => rfl
        | true =>
          have := HDT.out.1 h i hlt
          rw [← HXE.out] at this
          exact absurd this hne
      by_cases hg : x < -M
      · have HF2 : Hid (inB l M = false) := HF.out (by omega)
        go_wp2_with fail
        go_ret
        exact ⟨by rw [HF2.out]; rfl, rfl⟩
      · by_cases hs : M < x
        · have HF2 : Hid (inB l M = false) := HF.out (by omega)
          go_wp2_with fail
          go_ret
          exact ⟨by rw [HF2.out]; rfl, rfl⟩
        · have HA2 : Hid (∀ j, j < i + 1 → -M ≤ l.getD j 0 ∧ l.getD j 0 ≤ M) := fun j hj => by
            by_cases e : j = i
            · rw [e, ← HXE.out]; omega
            · exact HA.out j (by omega)
          go_wp2_with fail
          go_roundw
          case rel => exact ⟨i + 1, by omega, by go_num, HA2.out, by trivial⟩
          case measure => simp [intOf]; omega
    · have HF : Hid (inB l M = true) := HDT.out.2 (fun j hj => HA.out j (by omega))
      go_wp2_with fail
      go_ret
      exact ⟨by rw [HF.out]; rfl, rfl⟩
def twoB (m : Int) (a b : List Int) (M : Int) : Bool := decide (0 ≤ m) && decide (m ≤ 3) && decide (a.length = b.length) && inB a M && inB b M
theorem twoB_iff (m : Int) (a b : List Int) (M : Int) : twoB m a b M = true ↔ (0 ≤ m ∧ m ≤ 3) ∧ a.length = b.length ∧ inB a M = true ∧ inB b M = true := by unfold twoB; simp [and_assoc]
theorem twoB_no (m : Int) (a b : List Int) (M : Int) (h : ¬ ((0 ≤ m ∧ m ≤ 3) ∧ a.length = b.length ∧ inB a M = true ∧ inB b M = true)) : twoB m a b M = false := by
  cases e : twoB m a b M with
  | false => rfl
  | true => exact absurd ((twoB_iff m a b M).1 e) h
set_option maxRecDepth 20000 in
set_option maxHeartbeats 3200000 in
theorem qtwo_spec (m : Int) (a b : List Int) (M : Int) (hM0 : 0 ≤ M) (hM : M ≤ 4398046511104) (aa ba : Option Addr) (ac bc : Nat) (w : World) (ha : IntsAt w aa a) (hb : IntsAt w ba b) : Calls Tryd.prog 19 #[.int .i64 m, .slice aa a.length ac, .slice ba b.length bc, .int .i64 M] w fun e w' => e = .returned (.bool (twoB m a b M)) ∧ w' = w := by
  have KA : Hid (Calls Tryd.prog 23 #[.slice aa a.length ac, .int .i64 M] w fun e w' => e = .returned (.bool (inB a M)) ∧ w' = w) := qnear_spec a M hM0 hM aa ac w ha
  have KB : Hid (Calls Tryd.prog 23 #[.slice ba b.length bc, .int .i64 M] w fun e w' => e = .returned (.bool (inB b M)) ∧ w' = w) := qnear_spec b M hM0 hM ba bc w hb
  have hal := ha.len
  have hbl := hb.len
  clear ha hb
  by_cases g1 : ¬ 0 ≤ m
  · have hF : twoB m a b M = false := twoB_no m a b M (fun h => by omega)
    rw [hF]
    clear hF
    go_enter Tryd.func19, Tryd.ntmps19
    go_wp2_with fail
    go_ret
    exact ⟨rfl, rfl⟩
  · skip
    by_cases g2 : ¬ m ≤ 3
    · have hF : twoB m a b M = false := twoB_no m a b M (fun h => by omega)
      rw [hF]
      clear hF
      go_enter Tryd.func19, Tryd.ntmps19
      go_wp2_with fail
      go_ret
      exact ⟨rfl, rfl⟩
    · skip
      by_cases g3 : ¬ a.length = b.length
      · have hF : twoB m a b M = false := twoB_no m a b M (fun h => g3 h.2.1)
        rw [hF]
        clear hF
        have hbn : ((a.length : Int) == (b.length : Int)) = false := by rw [beq_eq_false_iff_ne]; omega
        clear g3
        go_enter Tryd.func19, Tryd.ntmps19
        go_wp2_with fail
        go_ret
        exact ⟨rfl, rfl⟩
      · skip
        have hbn : ((a.length : Int) == (b.length : Int)) = true := by rw [beq_iff_eq]; omega
        cases hia : inB a M with
        | false =>
          have hF : twoB m a b M = false := twoB_no m a b M (fun h => by rw [hia] at h; cases h.2.2.1)
          rw [hF]
          rw [hia] at KA
          clear hF hia g3
          go_enter Tryd.func19, Tryd.ntmps19
          go_wp2_with fail
          refine KA.out.mono ?_
          rintro e w2 ⟨rfl, hw2⟩
          subst hw2
          go_wp2_with fail
          go_ret
          exact ⟨rfl, rfl⟩
        | true =>
          cases hib : inB b M with
          | false =>
            have hF : twoB m a b M = false := twoB_no m a b M (fun h => by rw [hib] at h; cases h.2.2.2)
            rw [hF]
            rw [hia] at KA
            rw [hib] at KB
            clear hF hia hib g3
            go_enter Tryd.func19, Tryd.ntmps19
            go_wp2_with fail
            refine KA.out.mono ?_
            rintro e w2 ⟨rfl, hw2⟩
            subst hw2
            go_wp2_with fail
            refine KB.out.mono ?_
            rintro e w2 ⟨rfl, hw2⟩
            subst hw2
            go_wp2_with fail
            go_ret
            exact ⟨rfl, rfl⟩
          | true =>
            have hF : twoB m a b M = true := (twoB_iff m a b M).2 ⟨⟨by omega, by omega⟩, by omega, hia, hib⟩
            rw [hF]
            rw [hia] at KA
            rw [hib] at KB
            clear hF hia hib g3
            go_enter Tryd.func19, Tryd.ntmps19
            go_wp2_with fail
            refine KA.out.mono ?_
            rintro e w2 ⟨rfl, hw2⟩
            subst hw2
            go_wp2_with fail
            refine KB.out.mono ?_
            rintro e w2 ⟨rfl, hw2⟩
            subst hw2
            go_wp2_with fail
            go_ret
            exact ⟨rfl, rfl⟩
set_option maxRecDepth 20000 in
set_option maxHeartbeats 3200000 in
theorem qcoded_spec (m : Nat) (hm : m ≤ 3) (p q : Int) (hp : -1099511627776 ≤ p ∧ p ≤ 1099511627776) (hq : -1099511627776 ≤ q ∧ q ≤ 1099511627776) (w : World) : Calls Tryd.prog 20 #[.int .i64 (m : Int), .int .i64 p, .int .i64 q] w fun e w' => e = .returned (.tuple #[.int .i64 (stP m p q), .int .i64 (stQ m p q)]) ∧ w' = w := by
  obtain ⟨hp1, hp2⟩ := hp
  obtain ⟨hq1, hq2⟩ := hq
  rcases (show m = 0 ∨ m = 1 ∨ m = 2 ∨ m = 3 by omega) with rfl | rfl | rfl | rfl
  · show Calls Tryd.prog 20 #[.int .i64 0, .int .i64 p, .int .i64 q] w fun e w' => e = .returned (.tuple #[.int .i64 (p), .int .i64 (q)]) ∧ w' = w
    skip
    skip
    skip
    skip
    skip
    skip
    skip
    go_enter Tryd.func20, Tryd.ntmps20
    go_wp2_with fail
    go_ret2
    exact ⟨rfl, rfl⟩
  · show Calls Tryd.prog 20 #[.int .i64 1, .int .i64 p, .int .i64 q] w fun e w' => e = .returned (.tuple #[.int .i64 (p), .int .i64 (p - q)]) ∧ w' = w
    skip
    skip
    skip
    skip
    skip
    skip
    skip
    go_enter Tryd.func20, Tryd.ntmps20
    go_wp2_with fail
    go_ret2
    exact ⟨rfl, rfl⟩
  · show Calls Tryd.prog 20 #[.int .i64 2, .int .i64 p, .int .i64 q] w fun e w' => e = .returned (.tuple #[.int .i64 (p - q), .int .i64 (q)]) ∧ w' = w
    skip
    skip
    skip
    skip
    skip
    skip
    skip
    go_enter Tryd.func20, Tryd.ntmps20
    go_wp2_with fail
    go_ret2
    exact ⟨rfl, rfl⟩
  · show Calls Tryd.prog 20 #[.int .i64 3, .int .i64 p, .int .i64 q] w fun e w' => e = .returned (.tuple #[.int .i64 ((p + q) / 2), .int .i64 (p - q)]) ∧ w' = w
    skip
    skip
    skip
    skip
    skip
    skip
    skip
    go_enter Tryd.func20, Tryd.ntmps20
    go_wp2_with fail
    go_ret2
    exact ⟨rfl, rfl⟩
end Go.Proofs.YtpfkaddammfkkabDoor
