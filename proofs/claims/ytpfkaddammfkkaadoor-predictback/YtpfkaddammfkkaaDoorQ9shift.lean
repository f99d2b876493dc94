/- Own text: the program's Shift and Unshift. -/
import Derived.Test.YtpfkaddammfkkaaDoorQ9small
import Derived.Test.YtpfkaddammfkkaaDoorQ9was
import Derived.Test.YtpfkaddammfkkaaDoorR9sh2
namespace Go.Proofs.YtpfkaddammfkkaaDoor
open Go.RowKit
set_option linter.unusedSimpArgs false
set_option linter.unusedVariables false

theorem and_mask (a k : Nat) (ha : a < 18446744073709551616) (hk : k ≤ 31) : bits BinOp.and IntKind.u64 (a : Int) ((2 ^ k - 1 : Nat) : Int) = ((a % 2 ^ k : Nat) : Int) := by
  have hp2 : 2 ^ k ≤ 2147483648 := Nat.le_trans (Nat.pow_le_pow_right (by decide) hk) (by decide)
  rw [bits_and_u64_nat a _ ha (by omega), Nat.and_two_pow_sub_one_eq_mod]
theorem shrL_len (l : List Int) (k : Nat) : (shrL l k).length = l.length := List.length_map ..
theorem shlL_len (l : List Int) (k : Nat) : (shlL l k).length = l.length := List.length_map ..
set_option maxRecDepth 20000 in
set_option maxHeartbeats 3200000 in
theorem qunshift_spec (l : List Int) (k : Int) (la : Option Addr) (lc : Nat) (w : World) (hl : IntsAt w la l) : Calls Tryd.prog 21 #[.slice la l.length lc, .int .i64 k] w (Ret2 (unsR l k) w) := by
  have hln := hl.len
  by_cases h1 : k < 0
  · have HR : Hid (unsR l k = none) := by show _ = _; unfold unsR; rw [if_neg (fun h => by omega)]
    have hF : shB k = false := by
      cases h : shB k with
      | false => rfl
      | true => rw [shB_iff] at h; omega
    have ks := fun wx => qsh_spec k wx
    rw [hF] at ks
    go_enter Tryd.func21, Tryd.ntmps21
    go_wp2_with fail
    refine (ks _).mono ?_
    rintro e w2 ⟨rfl, rfl⟩
    go_wp2_with fail
    go_ret2
    exact ret_none HR.out rfl (Below.refl _ _)
  · skip
    by_cases h2 : 31 < k
    · have HR : Hid (unsR l k = none) := by show _ = _; unfold unsR; rw [if_neg (fun h => by omega)]
      have hF : shB k = false := by
        cases h : shB k with
        | false => rfl
        | true => rw [shB_iff] at h; omega
      have ks := fun wx => qsh_spec k wx
      rw [hF] at ks
      go_enter Tryd.func21, Tryd.ntmps21
      go_wp2_with fail
      refine (ks _).mono ?_
      rintro e w2 ⟨rfl, rfl⟩
      go_wp2_with fail
      go_ret2
      exact ret_none HR.out rfl (Below.refl _ _)
    · skip
      obtain ⟨k', rfl⟩ : ∃ k' : Nat, k = (k' : Int) := ⟨k.toNat, by omega⟩
      have hk31 : k' ≤ 31 := by omega
      have hk32 : (k' : Int) ≤ 31 := by omega
      have hF : shB (k' : Int) = true := by rw [shB_iff]; omega
      have ks := qsh_spec (k' : Int) w
      rw [hF] at ks
      have HR : Hid (unsR l (k' : Int) = some (shlL l k')) := by show _ = _; unfold unsR; rw [if_pos (by omega)]; rfl
      have HLL : Hid ((shlL l k').length = l.length) := shlL_len l k'
      have HRG : Hid (Rng (shlL l k')) := shlL_rng l k'
      have HAT : Hid (∀ i, (shlL l k').getD i 0 = wrap64 (l.getD i 0 * 2 ^ k')) := fun i => getD_shl l k' i
      have HL0 : Hid (∀ wx, Below w.heap.size w wx → IntsAt wx la l) := fun wx hb => hl.below hb
      have hmk := make_ints l.length hln
      have HM : Hid (Fill w w.heap.size (shlL l k') 0 (w.alloc (.cells (madeCells #[.int .i64 0] l.length) 3))) := by
        have := Fill.made w w (Below.refl _ _) (shlL l k')
        rw [shlL_len] at this; exact this
      have HL : Hid (IntsAt w la l) := hl
      clear hl hF HL0
      generalize shlL l k' = L at *
      go_enter Tryd.func21, Tryd.ntmps21
      go_wp2_with fail
      refine ks.mono ?_
      rintro e w2 ⟨rfl, hw2⟩
      subst hw2
      clear ks
      go_wp2_with fail
      generalize hwa : World.alloc _ _ = wa at *
      have HA : Hid (Fill w2 w2.heap.size L 0 wa) := HM.out
      have HS : True := trivial
      clear hwa hmk
      clear HS HM
      go_loopw [7, 8, 17] (fun s7 s8 s17 wr => ∃ i : Nat, i ≤ l.length ∧ s17 = .int .i64 (i : Int) ∧ Fill w2 w2.heap.size L i wr) (fun _ _ s17 _ => l.length - (intOf s17).toNat)
      case atStart => exact ⟨0, Nat.zero_le _, rfl, HA.out⟩
      case round =>
        clear HA
        obtain ⟨i, hi, rfl, hf⟩ := hrel
        have HA : Hid (Fill w2 w2.heap.size L i wr) := hf
        clear hf
        by_cases hlt : i < l.length
        · obtain ⟨b1, o1, rfl, q1⟩ := HL.out.at i hlt
          have r1 := q1 wr HA.out.below
          have hxr := HL.out.rng i
          have y5 := HA.out.cell i (by rw [HLL.out]; exact hlt)
          have z5 := HA.out.frozen i
          have hv := HAT.out i
          have HNX : Hid (Fill w2 w2.heap.size L (i + 1) (wr.setCell ⟨w2.heap.size, i, none⟩ (.int .i64 (L.getD i 0)))) := HA.out.set (by rw [HLL.out]; exact hlt)
          rw [hv] at HNX
          clear q1 HA hv
          generalize l.getD i 0 = x at *
          generalize (if i < i then L.getD i 0 else 0) = v5 at *
          go_wp2_with fail
          go_roundw
          case rel => exact ⟨i + 1, by omega, by go_num, HNX.out⟩
          case measure => simp [intOf]; omega
        · have hin : i = l.length := by omega
          subst hin
          have HI : Hid (IntsAt wr (some ⟨w2.heap.size, 0, none⟩) L ∧ Below w2.heap.size w2 wr) := ⟨Fill.ints (by rw [HLL.out]; exact HA.out) (by rw [HLL.out]; omega) HRG.out, HA.out.below⟩
          clear HA
          go_wp2_with fail
          go_ret2
          exact ret_some (la := some ⟨w2.heap.size, 0, none⟩) (lc := l.length) HR.out (by rw [HLL.out]; rfl) HI.out.1 HI.out.2
set_option maxRecDepth 20000 in
set_option maxHeartbeats 3200000 in
theorem qshift_spec (l : List Int) (k : Int) (la : Option Addr) (lc : Nat) (w : World) (hl : IntsAt w la l) : Calls Tryd.prog 19 #[.slice la l.length lc, .int .i64 k] w (Ret2 (shfR l k) w) := by
  have hln := hl.len
  by_cases h1 : k < 0
  · have HR : Hid (shfR l k = none) := by show _ = _; unfold shfR; rw [if_neg (fun h => by omega)]
    have hF : shB k = false := by
      cases h : shB k with
      | false => rfl
      | true => rw [shB_iff] at h; omega
    have ks := fun wx => qsh_spec k wx
    rw [hF] at ks
    go_enter Tryd.func19, Tryd.ntmps19
    go_wp2_with fail
    go_quiet ((go_at_call 39; exact Calls.quiet_of_same (ks _)))
    go_wp2_with fail
    go_ret2
    exact ret_none HR.out rfl (below_drewN _ _)
  · skip
    by_cases h2 : 31 < k
    · have HR : Hid (shfR l k = none) := by show _ = _; unfold shfR; rw [if_neg (fun h => by omega)]
      have hF : shB k = false := by
        cases h : shB k with
        | false => rfl
        | true => rw [shB_iff] at h; omega
      have ks := fun wx => qsh_spec k wx
      rw [hF] at ks
      go_enter Tryd.func19, Tryd.ntmps19
      go_wp2_with fail
      go_quiet ((go_at_call 39; exact Calls.quiet_of_same (ks _)))
      go_wp2_with fail
      go_ret2
      exact ret_none HR.out rfl (below_drewN _ _)
    · skip
      obtain ⟨k', rfl⟩ : ∃ k' : Nat, k = (k' : Int) := ⟨k.toNat, by omega⟩
      have hk31 : k' ≤ 31 := by omega
      have hk32 : (k' : Int) ≤ 31 := by omega
      have hF : shB (k' : Int) = true := by rw [shB_iff]; omega
      have ks := fun wx => qsh_spec (k' : Int) wx
      rw [hF] at ks
      have kg := fun n => qgather_spec l la lc (w.drewN n) (hl.drewN n)
      have hor := orN_lt l l.length
      have hmask := and_mask (orN l l.length) k' hor hk31
      have HDV : Hid (dvB l k' = true ↔ orN l l.length % 2 ^ k' = 0) := dvB_or l k' (by omega)
      have hp1 : 1 ≤ 2 ^ k' := Nat.one_le_two_pow
      have hp2 : 2 ^ k' ≤ 2147483648 := Nat.le_trans (Nat.pow_le_pow_right (by decide) hk31) (by decide)
      have hpw : (2 : Int) ^ k' = ((2 ^ k' : Nat) : Int) := by simp
      have HLL : Hid ((shrL l k').length = l.length) := shrL_len l k'
      have HRG : Hid (Rng (shrL l k')) := shrL_rng l k' hl.num
      have HAT : Hid (∀ i, (shrL l k').getD i 0 = l.getD i 0 / 2 ^ k') := fun i => getD_shr l k' i
      have hmk := make_ints l.length hln
      have HFM : Hid (∀ wx, Fill wx wx.heap.size (shrL l k') 0 (wx.alloc (.cells (madeCells #[.int .i64 0] l.length) 3))) := fun wx => by
        have := Fill.made wx wx (Below.refl _ _) (shrL l k')
        rw [shrL_len] at this; exact this
      have HL0 : Hid (∀ n, IntsAt (w.drewN n) la l) := fun n => hl.drewN n
      clear hl hF
      obtain ⟨a, ha⟩ : ∃ a, a = orN l l.length := ⟨_, rfl⟩
      rw [← ha] at hor hmask HDV kg
      clear ha
      by_cases h0 : a % 2 ^ k' = 0
      · have hd := HDV.out.2 h0
        have HR : Hid (shfR l (k' : Int) = some (shrL l k')) := by show _ = _; unfold shfR; rw [if_pos ⟨by omega, by rw [Int.toNat_natCast]; exact hd⟩]; rfl
        rw [h0] at hmask
        clear hd h0 HDV
        generalize shrL l k' = L at *
        obtain ⟨M, hM⟩ : ∃ M : Nat, M = 2 ^ k' - 1 := ⟨_, rfl⟩
        have hM2 : ((2 ^ k' : Nat) : Int) - 1 = (M : Int) := by omega
        have hM3 : M ≤ 2147483647 := by omega
        rw [← hM] at hmask
        clear hM
        generalize hNN : 2 ^ k' = N at hp1 hp2 hpw hM2
        clear hNN
        go_enter Tryd.func19, Tryd.ntmps19
        go_wp2_with fail
        go_quiet (first | (go_at_call 39; exact Calls.quiet_of_same (ks _)) | (go_at_call 40; exact Calls.quiet_of_same (kg _)))
        have hb2 : Below w.heap.size w (w.drewN nq) := below_drewN _ _
        have HL : Hid (IntsAt (w.drewN nq) la l) := HL0.out nq
        clear kg ks HL0
        generalize w.drewN nq = w2 at *
        have HB2 : Hid (Below w.heap.size w w2) := hb2
        clear hb2
        go_wp2_with fail
        generalize hwa : World.alloc _ _ = wa at *
        have HA : Hid (Fill w2 w2.heap.size L 0 wa) := by rw [← hwa]; exact HFM.out w2
        have HS : True := trivial
        have HM : True := trivial
        clear hwa hmk HFM hmask hp1 hp2 hpw hM2 hM3
        clear HS HM
        go_loopw [7, 8, 26] (fun s7 s8 s26 wr => ∃ i : Nat, i ≤ l.length ∧ s26 = .int .i64 (i : Int) ∧ Fill w2 w2.heap.size L i wr) (fun _ _ s26 _ => l.length - (intOf s26).toNat)
        case atStart => exact ⟨0, Nat.zero_le _, rfl, HA.out⟩
        case round =>
          clear HA
          obtain ⟨i, hi, rfl, hf⟩ := hrel
          have HA : Hid (Fill w2 w2.heap.size L i wr) := hf
          clear hf
          by_cases hlt : i < l.length
          · obtain ⟨b1, o1, rfl, q1⟩ := HL.out.at i hlt
            have r1 := q1 wr HA.out.below
            have hxr := HL.out.rng i
            have y5 := HA.out.cell i (by rw [HLL.out]; exact hlt)
            have z5 := HA.out.frozen i
            have hv := HAT.out i
            have HNX : Hid (Fill w2 w2.heap.size L (i + 1) (wr.setCell ⟨w2.heap.size, i, none⟩ (.int .i64 (L.getD i 0)))) := HA.out.set (by rw [HLL.out]; exact hlt)
            rw [hv] at HNX
            clear q1 HA hv
            generalize l.getD i 0 = x at *
            generalize (if i < i then L.getD i 0 else 0) = v5 at *
            go_wp2_with fail
            go_roundw
            case rel => exact ⟨i + 1, by omega, by go_num, HNX.out⟩
            case measure => simp [intOf]; omega
          · have hin : i = l.length := by omega
            subst hin
            have HI : Hid (IntsAt wr (some ⟨w2.heap.size, 0, none⟩) L ∧ Below w2.heap.size w2 wr) := ⟨Fill.ints (by rw [HLL.out]; exact HA.out) (by rw [HLL.out]; omega) HRG.out, HA.out.below⟩
            clear HA
            go_wp2_with fail
            go_ret2
            exact ret_some (la := some ⟨w2.heap.size, 0, none⟩) (lc := l.length) HR.out (by rw [HLL.out]; rfl) HI.out.1 (HB2.out.trans (HI.out.2.mono HB2.out.size))
      
      · have hd : dvB l k' = false := by
          cases h : dvB l k' with
          | false => rfl
          | true => exact absurd (HDV.out.1 h) h0
        have HR : Hid (shfR l (k' : Int) = none) := by show _ = _; unfold shfR; rw [if_neg (fun h => by have h2 := h.2; rw [Int.toNat_natCast, hd] at h2; cases h2)]
        obtain ⟨r, hr⟩ : ∃ r : Nat, r = a % 2 ^ k' := ⟨_, rfl⟩
        rw [← hr] at hmask h0
        have hbn : ((r : Int) != 0) = true := by rw [bne_iff_ne]; omega
        clear hd h0 HDV hr
        obtain ⟨M, hM⟩ : ∃ M : Nat, M = 2 ^ k' - 1 := ⟨_, rfl⟩
        have hM2 : ((2 ^ k' : Nat) : Int) - 1 = (M : Int) := by omega
        have hM3 : M ≤ 2147483647 := by omega
        rw [← hM] at hmask
        clear hM
        generalize hNN : 2 ^ k' = N at hp1 hp2 hpw hM2
        clear hNN
        go_enter Tryd.func19, Tryd.ntmps19
        go_wp2_with fail
        go_quiet (first | (go_at_call 39; exact Calls.quiet_of_same (ks _)) | (go_at_call 40; exact Calls.quiet_of_same (kg _)))
        have hb2 : Below w.heap.size w (w.drewN nq) := below_drewN _ _
        clear kg ks HL0
        generalize w.drewN nq = w2 at *
        have HB2 : Hid (Below w.heap.size w w2) := hb2
        clear hb2
        go_wp2_with fail
        go_ret2
        exact ret_none HR.out rfl HB2.out

end Go.Proofs.YtpfkaddammfkkaaDoor
