/- Own text: the contracts of the writer's calls. -/
import Derived.Test.YtdlakbgcflekkaaPut
namespace Go.Proofs.Ytdlakbgcflekkaa
open Go.RowKit
set_option linter.unusedSimpArgs false
set_option linter.unusedVariables false


/-- 'New': a writer of nothing in a new block. -/
theorem new_spec (w : World) : Calls Try.prog 10 #[] w fun e w' => e = .returned (.pointer (some ⟨w.heap.size, 0, none⟩)) ∧ WrB w' w.heap.size none [] ∧ w' = w.alloc (.cells #[.slice none 0 0, .int .i64 0] 62) := by
  go_enter Try.func10, Try.ntmps10
  go_wp2
  go_ret
  refine ⟨rfl, ⟨0, ?_, World.ownsRow_nil _ _ _ _, by simp [blockOf]⟩, rfl⟩
  rw [heap_alloc_new]
  rfl

theorem len_spec (p : Nat) (w : World) (ao : Option Addr) (B : List Nat) (hw : WrB w p ao B) : Calls Try.prog 15 #[.pointer (some ⟨p, 0, none⟩)] w fun e w' => e = .returned (.int .i64 (B.length : Int)) ∧ w' = w := by
  obtain ⟨cap, hW⟩ := hw
  have c1 := hW.c1
  go_enter Try.func15, Try.ntmps15
  go_wp2
  go_ret
  exact ⟨rfl, rfl⟩

theorem len_none (w : World) : Calls Try.prog 15 #[.pointer none] w fun e w' => e = .returned (.int .i64 0) ∧ w' = w := by
  go_enter Try.func15, Try.ntmps15
  go_wp2
  go_ret
  exact ⟨rfl, rfl⟩

/-- The text that bytes make. -/
def textOf (bs : List Nat) : ByteArray := ⟨(bs.map fun b => UInt8.ofNat b).toArray⟩

theorem textOf_eq (bs : List Nat) : textOf bs = strOfNums (bs.map fun (b : Nat) => (b : Int)) := by
  unfold textOf strOfNums
  rw [List.map_map]
  congr 2

theorem conv_row {w : World} {p : Nat} {ao : Option Addr} {cap : Nat} {bs : List Nat} {cnt : Nat} (h : Wr w p ao cap bs cnt) :
    (convert 31 9 (.slice ao bs.length cap)).run Try.prog w = .ok (.string (textOf bs)) w := by
  by_cases h0 : 0 < bs.length
  · obtain ⟨g, rfl, _⟩ := h.row h0
    rw [textOf_eq]
    refine run_convert_bytes_arg w 31 5 Try.underlying31 Try.underlying5 g 0 bs.length cap _ (by simp) (fun i hi => ?_) 9 Try.underlying9
    rw [Nat.zero_add, h.cg i hi]
    simp [List.getD, hi]
  · have hb : bs = [] := List.eq_nil_of_length_eq_zero (by omega)
    subst hb
    cases ao with
    | none => exact run_convert_bytes_nil w 31 5 Try.underlying31 Try.underlying5 _ _ 9 Try.underlying9
    | some a =>
      obtain ⟨ao1, cap1, hv, _, _, _, hs⟩ := owns_shape h.own
      simp only [Value.slice.injEq, true_and] at hv
      obtain ⟨rfl, rfl⟩ := hv
      obtain ⟨g, rfl⟩ : ∃ g, a = ⟨g, 0, none⟩ := ⟨_, (hs a rfl).1⟩
      exact run_convert_bytes_arg w 31 5 Try.underlying31 Try.underlying5 g 0 0 cap [] rfl (fun i hi => by omega) 9 Try.underlying9

theorem bytes_none (w : World) : Calls Try.prog 16 #[.pointer none] w fun e w' => e = .returned (.string ⟨#[]⟩) ∧ w' = w := by
  go_enter Try.func16, Try.ntmps16
  go_wp2
  go_ret
  exact ⟨rfl, rfl⟩

theorem bytes_spec (p : Nat) (w : World) (ao : Option Addr) (B : List Nat) (h01 : Bits01 B) (hB : B.length ≤ 1000000000000) (hw : WrB w p ao B) : Calls Try.prog 16 #[.pointer (some ⟨p, 0, none⟩)] w fun e w' => e = .returned (.string (textOf (pack B))) ∧ w' = w := by
  obtain ⟨cap, hW⟩ := hw
  have hcv := conv_row hW
  have c0 := hW.c0
  clear hW hB
  go_enter Try.func16, Try.ntmps16
  go_wp2
  go_ret
  exact ⟨rfl, rfl⟩

theorem put_none (n : Int) (k : Int) (w : World) : Calls Try.prog 11 #[.pointer none, .int .u64 n, .int .i64 k] w fun e w' => e = .returned (.int .i64 1) ∧ w' = w := by
  go_enter Try.func11, Try.ntmps11
  go_wp2
  go_ret
  exact ⟨rfl, rfl⟩

theorem put_ok (p n k : Nat) (hk : k ≤ 64) (hn : n < 2 ^ k) (w : World) (ao : Option Addr) (B : List Nat) (h01 : Bits01 B) (hB : B.length ≤ 1000000000000) (hw : WrB w p ao B) :
    Calls Try.prog 11 #[.pointer (some ⟨p, 0, none⟩), .int .u64 (n : Int), .int .i64 (k : Int)] w fun e w' =>
      e = .returned (.int .i64 0) ∧ ∃ ao', WrB w' p ao' (B ++ bitsOf n k) ∧ Stays (foot p ao) w w' ∧ Moved w.heap.size ao ao' := by
  have h64 : n < 18446744073709551616 := Nat.lt_of_lt_of_le hn (pow_le_of k 64 hk)
  have hz : (n : Int) / 2 ^ k = 0 := by
    have : n / 2 ^ k = 0 := Nat.div_eq_of_lt hn
    have e : (n : Int) / 2 ^ k = ((n / 2 ^ k : Nat) : Int) := by simp
    rw [e, this]; rfl
  go_enter Try.func11, Try.ntmps11
  go_wp2_with (go_at_call 30; refine (put_spec p n k h64 hk w ao B h01 hB hw).mono ?_; rintro e w' ⟨rfl, ao', h1, h2, h3⟩)
  go_ret
  exact ⟨rfl, ao', h1, h2, h3⟩

theorem put_bad (p : Nat) (n k : Int) (hn : 0 ≤ n) (hn2 : n < 18446744073709551616) (hbad : k < 0 ∨ 64 < k ∨ (0 ≤ k ∧ k ≤ 64 ∧ 2 ^ k.toNat ≤ n)) (w : World) :
    Calls Try.prog 11 #[.pointer (some ⟨p, 0, none⟩), .int .u64 n, .int .i64 k] w fun e w' => e = .returned (.int .i64 11) ∧ w' = w := by
  rcases hbad with h | h | ⟨h1, h2, h3⟩
  · go_enter Try.func11, Try.ntmps11
    go_wp2
    go_ret
    exact ⟨rfl, rfl⟩
  · go_enter Try.func11, Try.ntmps11
    go_wp2
    go_ret
    exact ⟨rfl, rfl⟩
  · have hp : 0 < (2 : Int) ^ k.toNat := Int.pow_pos (by decide)
    have hq : 1 ≤ n / 2 ^ k.toNat := Int.le_ediv_of_mul_le hp (by omega)
    have hz : (n / 2 ^ k.toNat != 0) = true := by simp; omega
    clear hq hp
    go_enter Try.func11, Try.ntmps11
    go_wp2
    go_ret
    exact ⟨rfl, rfl⟩

/-- 'unary': n bits 0 and a bit 1. -/
theorem unary_spec (p n : Nat) (hn : n ≤ 16777216) (w : World) (ao : Option Addr) (B : List Nat) (h01 : Bits01 B) (hB : B.length ≤ 900000000000) (hw : WrB w p ao B) :
    Calls Try.prog 73 #[.pointer (some ⟨p, 0, none⟩), .int .i64 (n : Int)] w fun e w' =>
      e = .returned (.tuple #[]) ∧ ∃ ao', WrB w' p ao' (B ++ List.replicate n 0 ++ [1]) ∧ Stays (foot p ao) w w' ∧ Moved w.heap.size ao ao' := by
  obtain ⟨i0, hi, hz0, hz1, hz2⟩ := info_parts Try.info5
  obtain ⟨cap, hW⟩ := hw
  have c0 := hW.c0
  have c1 := hW.c1
  have f1 := hW.f 1
  have hpl := pack_length B
  generalize hL : (pack B).length = l at *
  have HP : Hid _ := hpl
  have HL : Hid _ := hL
  have hl8 : 8 * l < B.length + 8 := by omega
  have hl9 : B.length ≤ 8 * l := by omega
  obtain ⟨m, hm⟩ : ∃ m : Nat, l + m = (B.length + n + 7) / 8 := ⟨(B.length + n + 7) / 8 - l, by omega⟩
  have hmi : ((B.length : Int) + (n : Int) + 7) / 8 - (l : Int) = (m : Int) := by omega
  have hml : l + m ≤ 200000000000 := by omega
  have HM : Hid _ := hm
  have HI : Hid _ := hmi
  clear hpl hL hm hmi
  go_enter Try.func73, Try.ntmps73
  go_wp2
  generalize hwx : World.setCell _ _ _ = wx
  have hWx : Wr wx p ao cap (pack B) (B.length + n) := by
    rw [← hwx]
    have := hW.setCount (B.length + n)
    simpa using this
  have hSx : Stays (foot p ao) w wx := by rw [← hwx]; exact (Stays.refl _ _).setCell _ _ (.inl (.inl rfl))
  have hsz : wx.heap.size = w.heap.size := by rw [← hwx]; simp [World.setCell]
  have HZ : Hid _ := hsz
  clear hwx hsz c0 c1 f1 hW
  have c0 := hWx.c0
  have c1 := hWx.c1
  have b0 := hWx.f 0
  have hown := hWx.own
  rw [HL.out] at c0 hown
  have ei : ((B.length + n : Nat) : Int) = (B.length : Int) + (n : Int) := by omega
  rw [ei] at c1
  clear ei
  go_quiet (fail)
  rw [HI.out]
  go_wp2_with (at_builtin; refine wpList_append_zeros _ rfl _ _ 31 3 rfl 5 i0 (.int .u8 0) 1 Try.underlying31 Try.underlying3 hi hz0 hz1 hz2 rfl rfl ao cap l _ rfl (owns_drewN hown _) m rfl ?cc ?cd ?ce)
  case cc => unfold maxLen; omega
  case cd => omega
  case ce =>
    intro ao2 cap2 w1 hown2 hgr hmv
    have hWd := hWx.drewN nq
    have q0 : w1.cell? ⟨p, 0, none⟩ = some (.slice ao l cap) := by
      rw [World.cell?_of_block (hgr.block p hWd.lt (fun e => hWx.ne e.symm)), hWd.c0, HL.out]
    have qf : w1.frozen? ⟨p, 0, none⟩ = false := by
      rw [World.frozen?_of_block (hgr.block p hWd.lt (fun e => hWx.ne e.symm)), hWd.f 0]
    have hW2 : WrB (w1.setCell ⟨p, 0, none⟩ (.slice ao2 (l + m) cap2)) p ao2 (B ++ List.replicate n 0) := by
      refine ⟨cap2, ?_⟩
      have e : pack (B ++ List.replicate n 0) = pack B ++ List.replicate m 0 := by
        unfold pack
        rw [packN_zeros, List.length_append, List.length_replicate, ← HM.out, ← HP.out]
        exact packN_past B l m hl9
      rw [e, List.length_append, List.length_replicate]
      refine hWd.setSlice hgr (by simpa using hmv) (l + m) (by rw [List.length_append, List.length_replicate, HL.out]) ?_
      rw [byteVals_append, byteVals_zeros]
      exact hown2
    have hS2 : Stays (foot p ao) w (w1.setCell ⟨p, 0, none⟩ (.slice ao2 (l + m) cap2)) := by
      have s1 : Stays (foot p ao) wx w1 := ⟨hgr.os, hgr.tape, hgr.output, hgr.size, fun k hk hs => hgr.block k hk (fun e => hs (.inr e.symm))⟩
      exact (hSx.trans s1 (fun _ _ h => h)).setCell _ _ (.inl (.inl rfl))
    have hM2 : Moved w.heap.size ao ao2 := by
      have := hmv
      simp only [World.heap_drewN, HZ.out] at this
      exact this
    clear hown2 hgr hmv hWd hWx c0 c1 b0 hown hSx
    go_wp2_with (go_at_call 30; refine (put_spec p 1 1 (by decide) (by decide) _ ao2 (B ++ List.replicate n 0) (h01.append (Bits01.zeros n)) (by simp; omega) hW2).mono ?_; rintro e w' ⟨rfl, ao', h1, h2, h3⟩)
    go_end0
    refine ⟨rfl, ao', h1, hS2.foot h2 hM2, hM2.trans h3 ?_⟩
    exact hS2.size

end Go.Proofs.Ytdlakbgcflekkaa
