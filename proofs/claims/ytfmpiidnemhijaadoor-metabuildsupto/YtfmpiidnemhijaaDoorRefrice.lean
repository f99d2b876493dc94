/- Own text: the walks of the document's writer's Signed, Rice and Bytes. -/
import Derived.Test.YtfmpiidnemhijaaDoorWsigned
import Derived.Deep.OwnRows
namespace Go.Proofs.YtfmpiidnemhijaaDoor
open Go.RowKit
set_option linter.unusedSimpArgs false
set_option linter.unusedVariables false


theorem mod_cast2 (a k : Nat) : (a : Int) % 2 ^ k = ((a % 2 ^ k : Nat) : Int) := by simp

theorem packN_grow (B L : List Nat) (m M : Nat) (hM : m < M) (h1 : 8 * m ≤ B.length) (h2 : B.length + L.length ≤ 8 * m + 8) :
    packN (B ++ L) M = (packN B M).set m (byteOf B m + num L * 2 ^ (8 * m + 8 - B.length - L.length)) := by
  apply List.ext_getElem?
  intro j
  rw [List.getElem?_set]
  simp only [packN_length]
  by_cases hj : j = m
  · subst hj
    simp [packN, byteOf_last B L j h1 h2, hM]
  · rw [if_neg (by omega)]
    by_cases hj2 : j < M
    · simp only [packN, List.getElem?_map, List.getElem?_range hj2, Option.map_some]
      by_cases hjm : j < m
      · rw [byteOf_append B L j (by omega)]
      · rw [byteOf_past B j (by omega), byteOf_past (B ++ L) j (by rw [List.length_append]; omega)]
    · simp [packN, hj2]

theorem packN_nil (M : Nat) : packN [] M = List.replicate M 0 := by
  have := packN_past [] 0 M (by simp)
  simpa [packN] using this

theorem bytes_step (B : List Nat) (h01 : Bits01 B) (j b c M v y : Nat) (hj : j < B.length) (hbc : j = 8 * b + c) (hc : c < 8) (hb : b < M) (hv : v = B[j]) (hy : y = byteOf (B.take j) b) :
    packN (B.take (j + 1)) M = (packN (B.take j) M).set b (y + v * 2 ^ (7 - c)) ∧ y + v * 2 ^ (7 - c) < 256 := by
  have ht : B.take (j + 1) = B.take j ++ [v] := by rw [List.take_succ_eq_append_getElem hj, hv]
  have hl : (B.take j).length = j := by rw [List.length_take]; omega
  have e := packN_grow (B.take j) [v] b M hb (by omega) (by simp [hl]; omega)
  have e2 := byteOf_last (B.take j) [v] b (by omega) (by simp [hl]; omega)
  rw [hl, List.length_singleton, show 8 * b + 8 - j - 1 = 7 - c from by omega, show num [v] = v from by simp [num], ← hy] at e e2
  refine ⟨by rw [ht]; exact e, ?_⟩
  rw [← e2, ← ht]
  exact byteOf_lt _ (h01.take _) b

theorem conv_owned {w : World} {ao : Option Addr} {cap : Nat} {bs : List Nat} {n : Nat} (h : w.ownsRow 0 5 1 (.slice ao n cap) n (byteVals bs)) (hn : bs.length = n) :
    (convert 63 9 (.slice ao n cap)).run Tryd.prog w = .ok (.string (textOf bs)) w := by
  subst hn
  obtain ⟨ao1, cap1, hv, _, _, _, hs⟩ := owns_shape h
  simp only [Value.slice.injEq, true_and] at hv
  obtain ⟨rfl, rfl⟩ := hv
  cases ao with
  | none =>
    have hb : bs = [] := by
      rcases h.2 with ⟨_, h0⟩ | ⟨g, cap', cur, hv, _⟩
      · exact List.eq_nil_of_length_eq_zero h0
      · cases hv
    subst hb
    exact run_convert_bytes_nil w 63 5 Tryd.underlying63 Tryd.underlying5 _ _ 9 Tryd.underlying9
  | some a =>
    obtain ⟨g, rfl⟩ : ∃ g, a = ⟨g, 0, none⟩ := ⟨_, (hs a rfl).1⟩
    rw [textOf_eq]
    refine run_convert_bytes_arg w 63 5 Tryd.underlying63 Tryd.underlying5 g 0 bs.length cap _ (by simp) (fun i hi => ?_) 9 Tryd.underlying9
    rw [Nat.zero_add, h.cellAt i (by omega)]
    simp [byteVals, List.getD, hi]

set_option maxRecDepth 20000 in
set_option maxHeartbeats 1600000 in
theorem xbytes_spec (x : Nat) (w : World) (ao : Option Addr) (B : List Nat) (h01 : Bits01 B) (hB : B.length ≤ 900000000000) (hw : XwB w x ao B) :
    Calls Tryd.prog 25 #[.pointer (some ⟨x, 0, none⟩)] w fun e w' => e = .returned (.string (textOf (pack B))) ∧ Below w.heap.size w w' := by
  obtain ⟨i0, hi, hz0, hz1, hz2⟩ := info_parts Tryd.info5
  obtain ⟨cap, hX⟩ := hw
  have c0 := hX.c0
  obtain ⟨M, hM⟩ : ∃ M, M = (B.length + 7) / 8 := ⟨_, rfl⟩
  have hMi : ((B.length : Int) + 7) / 8 = (M : Int) := by omega
  have hM1 : M ≤ 200000000000 := by omega
  have HM : Hid _ := hM
  clear hM
  have hmk := run_make_row' (P := Tryd.prog) 63 5 (.int .u8 0) 1 Tryd.underlying63 Tryd.info5 rfl .i64 .i64 M (by omega) (by omega) w
  obtain ⟨w1, hw1⟩ : ∃ w1, w1 = w.alloc (.cells (madeCells #[.int .u8 0] M) 5) := ⟨_, rfl⟩
  obtain ⟨g, hg⟩ : ∃ g, g = w.heap.size := ⟨_, rfl⟩
  have hB1 : Below w.heap.size w w1 := by rw [hw1]; exact (Below.refl _ _).alloc (Nat.le_refl _) _
  have hX1 : Xw w1 x ao cap B := hX.stays (Stays.of_below hB1 (fun _ => False)) (fun h => h) (fun _ _ h => h)
  have hO1 : w1.ownsRow 0 5 1 (.slice (some ⟨g, 0, none⟩) M M) M (byteVals (packN (B.take 0) M)) := by
    rw [hw1, hg, List.take_zero, packN_nil, byteVals_zeros, ← toList_madeCells_one]
    exact World.ownsRow_lit w _ M (Nat.zero_le _) (by unfold maxLen; omega) (by simp [madeCells])
  have hxg : x ≠ g := by have := hX.lt; omega
  have hbg : ∀ b, blockOf ao = some b → b ≠ g := fun b hb => by have := hX.blocks b hb; omega
  rw [← hw1, ← hg] at hmk
  have HG : Hid _ := hg
  clear hw1 hg
  go_enter Tryd.func25, Tryd.ntmps25
  go_wp2
  clear hmk
  go_loopw [4] (fun t wr => ∃ j : Nat, j ≤ B.length ∧ t = .int .i64 (j : Int) ∧ Xw wr x ao cap B ∧ wr.ownsRow 0 5 1 (.slice (some ⟨g, 0, none⟩) M M) M (byteVals (packN (B.take j) M)) ∧ Below g w wr) (fun t _ => B.length - (intOf t).toNat)
  case atStart => exact ⟨0, Nat.zero_le _, rfl, hX1, hO1, by rw [HG.out]; exact hB1⟩
  case round =>
    obtain ⟨j, hj, rfl, hXr, hO, hBl⟩ := hrel
    clear hX1 hO1 hB1 c0
    have c0 := hXr.c0
    by_cases hlt : (j : Int) < (B.length : Int)
    · obtain ⟨b, c, hbc, hc8⟩ : ∃ b c : Nat, j = 8 * b + c ∧ c < 8 := ⟨j / 8, j % 8, by omega, by omega⟩
      have hdiv : (j : Int) / 8 = (b : Int) := by omega
      have hmod : (j : Int) % 8 = (c : Int) := by omega
      have hbM : b < M := by have := HM.out; omega
      have hj2 : j < B.length := by omega
      obtain ⟨h, rfl⟩ : ∃ h, ao = some ⟨h, 0, none⟩ := by
        obtain ⟨ao1, cap1, hv, _, _, hn, hs⟩ := owns_shape hXr.own
        simp only [Value.slice.injEq, true_and] at hv
        obtain ⟨rfl, rfl⟩ := hv
        cases ao with
        | none => have := (hn rfl).1; omega
        | some a => exact ⟨a.block, by rw [← (hs a rfl).1]⟩
      have hcb : wr.cell? ⟨h, j, none⟩ = some (.int .u8 ((B[j] : Nat) : Int)) := by
        rw [hXr.own.cellAt j (by omega)]
        simp [byteVals, hj2]
      have hco : wr.cell? ⟨g, b, none⟩ = some (.int .u8 ((byteOf (B.take j) b : Nat) : Int)) := by
        rw [hO.cellAt b (by omega)]
        simp [byteVals, packN, hbM]
      have hfo := hO.frozenAt b
      obtain ⟨v, hv⟩ : ∃ v, v = B[j] := ⟨_, rfl⟩
      obtain ⟨y, hy⟩ : ∃ y, y = byteOf (B.take j) b := ⟨_, rfl⟩
      rw [← hv] at hcb
      rw [← hy] at hco
      have hv2 : v < 2 := by rw [hv]; exact h01 _ (List.getElem_mem _)
      have hy2 : y < 256 := by rw [hy]; exact byteOf_lt _ (h01.take j) b
      have HV : Hid _ := hv
      have HY : Hid _ := hy
      have HBC : Hid _ := hbc
      clear hv hy hbc
      have hstep := bytes_step B h01 j b c M v y hj2 HBC.out hc8 hbM HV.out HY.out
      have hval : ((y : Int) + (v : Int) * 2 ^ (7 - c)) % 256 = ((y + v * 2 ^ (7 - c) : Nat) : Int) := by
        have e : (v : Int) * 2 ^ (7 - c) = ((v * 2 ^ (7 - c) : Nat) : Int) := by simp
        rw [e]
        have := hstep.2
        omega
      have HS : Hid _ := hstep
      have HVAL : Hid _ := hval
      clear hstep hval
      go_wp2
      go_region
      rw [HVAL.out]
      generalize hwd : World.drew _ = w2
      have hO2 : w2.ownsRow 0 5 1 (.slice (some ⟨g, 0, none⟩) M M) M (byteVals (packN (B.take (j + 1)) M)) := by
        rw [← hwd, HS.out.1, ← byteVals_set]
        exact (hO.stored b (.int .u8 ((y + v * 2 ^ (7 - c) : Nat) : Int))).1
      have hX2 : Xw w2 x (some ⟨h, 0, none⟩) cap B := by
        rw [← hwd]
        refine hXr.kept ?_ (fun b' hb' => ?_)
        · exact Below.heap_setCell wr _ _ x hxg
        · exact Below.heap_setCell wr _ _ b' (hbg b' hb')
      have hB2 : Below g w w2 := by
        rw [← hwd]
        exact (hBl.setCell (Nat.le_refl _) _).drew
      clear hwd hO hXr hBl hcb hco hfo c0
      go_wp2
      go_roundw
      case rel => exact ⟨j + 1, by omega, by go_num, hX2, hO2, hB2⟩
      case measure => simp only [intOf]; omega
    · obtain rfl : j = B.length := by omega
      rw [List.take_length] at hO
      have hcv := conv_owned hO (by rw [packN_length])
      go_wp2
      go_ret
      refine ⟨?_, by rw [← HG.out]; exact hBl⟩
      rw [show pack B = packN B M from by unfold pack; rw [← HM.out]]
      rfl
end Go.Proofs.YtfmpiidnemhijaaDoor
