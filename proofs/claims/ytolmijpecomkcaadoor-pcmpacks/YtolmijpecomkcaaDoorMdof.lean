/- Own text: the walk of the document's digest of a text. -/
import Derived.Test.YtolmijpecomkcaaDoorMdblock
import Derived.Deep.RegionWith
namespace Go.Proofs.YtolmijpecomkcaaDoor
open Go.RowKit
set_option linter.unusedSimpArgs false
set_option linter.unusedVariables false

theorem le_text (n k : Nat) (h1 : 1 ≤ k) (h8 : k ≤ 8) (h : n < 256 ^ k) : leT (n : Int) (k : Int) = textOf (lowL n k) := leT_nat n k (fits_of_nat n k h1 h8 h)

/-- The padding's bytes. -/
def padL (n : Nat) : List Nat := 128 :: List.replicate ((119 - n % 64) % 64) 0

theorem padL_length (n : Nat) : (padL n).length = 1 + (119 - n % 64) % 64 := by
  unfold padL
  rw [List.length_cons, List.length_replicate]
  omega

theorem padL_get (n j : Nat) (h : j < (padL n).length) : (padL n).getD j 0 = if j = 0 then 128 else 0 := by
  unfold padL at h ⊢
  rw [List.length_cons, List.length_replicate] at h
  cases j with
  | zero => rfl
  | succ j =>
    rw [List.getD_cons_succ, List.getD_eq_getElem?_getD, List.getElem?_replicate, if_pos (by omega)]
    simp

theorem pad_range (n : Nat) : (List.range (1 + (119 - n % 64) % 64)).map (fun j => if j = 0 then 128 else 0) = padL n := by
  apply List.ext_getElem?
  intro j
  by_cases h : j < 1 + (119 - n % 64) % 64
  · have hl : j < (padL n).length := by rw [padL_length]; exact h
    have := padL_get n j hl
    rw [List.getD_eq_getElem?_getD, List.getElem?_eq_getElem hl] at this
    rw [List.getElem?_eq_getElem hl]
    simp [h]
    simpa using this.symm
  · rw [List.getElem?_eq_none (by simp; omega), List.getElem?_eq_none (by rw [padL_length]; omega)]

theorem padded_text (s : ByteArray) : s ++ textOf (padL s.size) ++ textOf (lowL (8 * s.size) 8) = textOf (padded (bytesOf s)) := by
  have h1 : s = textOf (bytesOf s) := (textOf_bytesOf s).symm
  have h2 : textOf (bytesOf s) ++ textOf (padL s.size) ++ textOf (lowL (8 * s.size) 8) = textOf (padded (bytesOf s)) := by
    rw [textOf_append, textOf_append]
    congr 1
    unfold padded behind padL
    rw [bytesOf_length, List.append_assoc]
    rfl
  rw [← h1] at h2
  exact h2

/-- The registers by their number. -/
def regN (q : Reg4) : Nat → Nat | 0 => q.a.toNat | 1 => q.b.toNat | 2 => q.c.toNat | _ => q.d.toNat

theorem regN_lt (q : Reg4) (i : Nat) : regN q i < 4294967296 := by
  rcases i with _ | _ | _ | i
  · exact q.a.isLt
  · exact q.b.isLt
  · exact q.c.isLt
  · exact q.d.isLt

theorem regN_cell (q : Reg4) (i : Nat) (hi : i < 4) : (regV q)[i]? = some (.int .u32 (regN q i : Int)) := by
  rcases i with _ | _ | _ | _ | i
  · rfl
  · rfl
  · rfl
  · rfl
  · omega

def outN (q : Reg4) : Nat → List Nat
  | 0 => []
  | i + 1 => outN q i ++ lowL (regN q i) 4

theorem outN_four (q : Reg4) : outN q 4 = outQ q := by
  unfold outQ
  simp [outN, regN]

theorem outN_lt (q : Reg4) : ∀ i, (outN q i).length = 4 * i
  | 0 => rfl
  | i + 1 => by
    show (outN q i ++ lowL (regN q i) 4).length = _
    rw [List.length_append, outN_lt q i, lowL_length]
    omega

set_option maxRecDepth 200000 in
set_option maxHeartbeats 4000000 in
theorem refOf_spec (s : ByteArray) (hs : s.size ≤ 1000000000000000000) (w : World) :
    Calls Tryd.prog 23 #[.string s] w fun e w' => e = .returned (.string (textOf (md5 (bytesOf s)))) ∧ Below w.heap.size w w' := by
  have kle := fun w => refle_spec ((8 * s.size : Nat) : Int) 8 (by omega) (by omega) w
  have e8 : leT ((8 * s.size : Nat) : Int) 8 = textOf (lowL (8 * s.size) 8) := le_text (8 * s.size) 8 (by decide) (by decide) (by
    have : (256 : Nat) ^ 8 = 18446744073709551616 := by decide
    omega)
  rw [e8] at kle
  clear e8
  have em : (s.size : Int) * 8 = ((8 * s.size : Nat) : Int) := by omega
  have em2 : 8 * (s.size : Int) = ((8 * s.size : Nat) : Int) := by omega
  have hmk := made_run (1 + (119 - s.size % 64) % 64) (by omega)
  have ep : 1 + (119 - (s.size : Int) % 64) % 64 = ((1 + (119 - s.size % 64) % 64 : Nat) : Int) := by omega
  have ep2 : 1 + (119 - (s.size : Int)) % 64 = ((1 + (119 - s.size % 64) % 64 : Nat) : Int) := by omega
  have HP : Hid ((List.range (1 + (119 - s.size % 64) % 64)).map (fun j => if j = 0 then 128 else 0) = padL s.size) := pad_range s.size
  have HX : Hid (s ++ textOf (padL s.size) ++ textOf (lowL (8 * s.size) 8) = textOf (padded (bytesOf s))) := padded_text s
  have hpl : (textOf (padL s.size)).size ≤ 64 := by rw [textOf_size, padL_length]; omega
  have hll : (textOf (lowL (8 * s.size) 8)).size = 8 := by rw [textOf_size, lowL_length]
  have hnp : 0 < 1 + (119 - s.size % 64) % 64 := by omega
  have hnp2 : 1 + (119 - s.size % 64) % 64 ≤ 64 := by omega
  generalize textOf (lowL (8 * s.size) 8) = long at *
  generalize 8 * s.size = m8 at *
  generalize 1 + (119 - s.size % 64) % 64 = np at *
  generalize wE (m8 : Int) 8 = er at *
  go_enter Tryd.func23, Tryd.ntmps23
  go_wp2_with fail
  refine (kle _).mono ?_
  rintro e w1 ⟨rfl, hB⟩
  have H1 : Hid (w1.heap[w.heap.size]? = some (.cells (regV q0) 73 (0, 0)) ∧ Below w.heap.size w w1) := by
    constructor
    · rw [hB.block _ (by simp)]
      exact heap_alloc_new _ _
    · exact ((Below.refl w.heap.size w).alloc (Nat.le_refl _) _).trans (hB.mono (by simp))
  clear hB
  have hrow := World.rowIs_made w1 (.int .u8 0) np 5
  have hc := hrow.cell hnp
  have hf := hrow.frozen 0
  have hrow2 := hrow.set 0 (.int .u8 128)
  have hrow3 : ((w1.alloc (.cells (madeCells #[.int .u8 0] np) 5)).setCell ⟨w1.heap.size, 0, none⟩ (.int .u8 128)).rowIs w1.heap.size 5 np (fun j => .int .u8 ((if j = 0 then 128 else 0 : Nat) : Int)) := hrow2.congr (fun j hj => by
    by_cases h : j = 0
    · simp [h]
    · simp [h])
  have hcv := conv_row (cap := np) hrow3
  rw [HP.out] at hcv
  have hsame : (w1.alloc (.cells (madeCells #[.int .u8 0] np) 5)).setCell ⟨w1.heap.size, 0, none⟩ (.int .u8 128) = w1.alloc (.cells ((madeCells #[.int .u8 0] np).setIfInBounds 0 (.int .u8 128)) 5) := World.setCell_alloc_at _ _ _ _ _ rfl
  rw [hsame] at hcv
  clear hrow hrow2 hrow3 hsame
  go_wp2_with fail
  rw [HX.out]
  generalize hwa : w1.alloc (.cells ((madeCells #[.int .u8 0] np).setIfInBounds 0 (.int .u8 128)) 5) = wa
  have H2 : Hid (wa.heap[w.heap.size]? = some (.cells (regV q0) 73 (0, 0)) ∧ Below w.heap.size w wa) := by
    rw [← hwa]
    exact ⟨by rw [Below.heap_alloc _ _ _ (lt_of_block H1.out.1)]; exact H1.out.1, H1.out.2.alloc H1.out.2.size _⟩
  have HXS : Hid ((textOf (padded (bytesOf s))).size = 64 * ((s.size + 8) / 64 + 1)) := by
    show _ = _
    rw [textOf_size, padded_length, bytesOf_length]
  have HXB : Hid (bytesOf (textOf (padded (bytesOf s))) = padded (bytesOf s)) := bytesOf_textOf _ (padded_lt _ (bytesOf_lt s))
  have HQ : Hid (md5 (bytesOf s) = outQ (mblocks q0 (padded (bytesOf s)) ((s.size + 8) / 64 + 1))) := by
    show _ = _
    unfold md5 mdQ
    rw [bytesOf_length]
  clear hwa HX HP hcv hc hf hmk ep ep2 em em2 kle hpl hll hnp hnp2 H1
  have hK : (s.size + 8) / 64 + 1 ≤ 20000000000000000 := by omega
  generalize (s.size + 8) / 64 + 1 = K at *
  generalize padded (bytesOf s) = L at *
  generalize textOf L = X at *
  go_wp2_with fail
  generalize (119 - (s.size : Int) % 64) % 64 = v25
  generalize 119 - (s.size : Int) % 64 = v24
  generalize (s.size : Int) % 64 = v23
  go_loopw [8] (fun t wr => ∃ (k p : Nat), k ≤ K ∧ p = 64 * k ∧ t = .int .i64 (p : Int) ∧ wr.heap[w.heap.size]? = some (.cells (regV (mblocks q0 L k)) 73 (0, 0)) ∧ Below w.heap.size w wr) (fun t _ => 64 * K - (intOf t).toNat)
  case atStart => exact ⟨0, 0, Nat.zero_le _, rfl, rfl, H2.out.1, H2.out.2⟩
  case round =>
    clear H2
    obtain ⟨k, p, hk, hp, rfl, hblk, hbel⟩ := hrel
    have hxs := HXS.out
    by_cases hlt : k < K
    · have hp64 : p + 64 ≤ X.size := by omega
      have HPK : Hid (p + 64 = 64 * (k + 1)) := by
        show _ = _
        omega
      have hpl : p + 64 ≤ 2000000000000000000 := by omega
      have HM : Hid (mblock (mblocks q0 L k) (bytesOf (X.extract p (p + 64))) = mblocks q0 L (k + 1)) := by
        show _ = _
        rw [bytesOf_extract, HXB.out, hp, List.drop_take, show 64 * k + 64 - 64 * k = 64 from by omega]
        rfl
      have hes : (X.extract p (p + 64)).size = 64 := by rw [ByteArray.size_extract]; omega
      have kb := fun w => block_spec (mblocks q0 L k) (X.extract p (p + 64)) hes w
      rw [HM.out] at kb
      have hsl := slice_run X p (p + 64) (by omega) hp64
      have e1 : (p : Int) + 64 = ((p + 64 : Nat) : Int) := by omega
      have hle : (((p + 64 : Nat) : Int) ≤ (X.size : Int)) := by omega
      have hmx : (X.size : Int) ≤ 9223372036854775807 := by omega
      have hwp : IntKind.i64.wrap ((p + 64 : Nat) : Int) = ((p + 64 : Nat) : Int) := by
        rw [IntKind.wrap_i64]
        omega
      clear hes hp hxs HM
      generalize mblocks q0 L k = q at *
      generalize hq' : mblocks q0 L (k + 1) = q' at *
      have HQ' : Hid (mblocks q0 L (k + 1) = q') := hq'
      clear hq'
      generalize p + 64 = p' at *
      have HC : Hid (∀ wx, Below wr.heap.size wr.drew wx → wx.heap[w.heap.size]? = some (.cells (regV q) 73 (0, 0)) ∧ Below w.heap.size w wx) := fun wx hx =>
        ⟨by rw [hx.block _ (lt_of_block hblk)]; exact hblk, hbel.trans ⟨hx.os, hx.tape, hx.output, hx.size, fun j hj => hx.block j (Nat.lt_of_lt_of_le hj hbel.size)⟩⟩
      have c0 : wr.cell? ⟨w.heap.size, 0, none⟩ = some (.int .u32 (q.a.toNat : Int)) := by rw [cell_of_row _ _ _ _ _ _ hblk]; rfl
      have c1 : wr.cell? ⟨w.heap.size, 1, none⟩ = some (.int .u32 (q.b.toNat : Int)) := by rw [cell_of_row _ _ _ _ _ _ hblk]; rfl
      have c2 : wr.cell? ⟨w.heap.size, 2, none⟩ = some (.int .u32 (q.c.toNat : Int)) := by rw [cell_of_row _ _ _ _ _ _ hblk]; rfl
      have c3 : wr.cell? ⟨w.heap.size, 3, none⟩ = some (.int .u32 (q.d.toNat : Int)) := by rw [cell_of_row _ _ _ _ _ _ hblk]; rfl
      clear hblk hbel
      have KB : Hid (∀ w, Calls Tryd.prog 42 #[.agg (regV q), .string (X.extract p p')] w fun e w' => e = .returned (.agg (regV q')) ∧ Below w.heap.size w w') := kb
      clear kb
      go_wp2_with fail
      go_region_with (go_at_call 42; refine (KB.out _).mono ?_; rintro e w3 ⟨rfl, hB3⟩; obtain ⟨g1, g2⟩ := HC.out w3 hB3; have G1 : Hid (w3.heap[w.heap.size]? = some (.cells (regV q) 73 (0, 0)) ∧ Below w.heap.size w w3) := ⟨g1, g2⟩; have d0 : w3.cell? ⟨w.heap.size, 0, none⟩ = some (.int .u32 (q.a.toNat : Int)) := (by rw [cell_of_row _ _ _ _ _ _ g1]; rfl); have d1 : w3.cell? ⟨w.heap.size, 1, none⟩ = some (.int .u32 (q.b.toNat : Int)) := (by rw [cell_of_row _ _ _ _ _ _ g1]; rfl); have d2 : w3.cell? ⟨w.heap.size, 2, none⟩ = some (.int .u32 (q.c.toNat : Int)) := (by rw [cell_of_row _ _ _ _ _ _ g1]; rfl); have d3 : w3.cell? ⟨w.heap.size, 3, none⟩ = some (.int .u32 (q.d.toNat : Int)) := (by rw [cell_of_row _ _ _ _ _ _ g1]; rfl); have y0 : w3.frozen? ⟨w.heap.size, 0, none⟩ = false := (by simp [World.frozen?, g1]); have y1 : w3.frozen? ⟨w.heap.size, 1, none⟩ = false := (by simp [World.frozen?, g1]); have y2 : w3.frozen? ⟨w.heap.size, 2, none⟩ = false := (by simp [World.frozen?, g1]); have y3 : w3.frozen? ⟨w.heap.size, 3, none⟩ = false := (by simp [World.frozen?, g1]); clear g1 g2 hB3)
      generalize hwf : (((w3.setCell ⟨w.heap.size, 0, none⟩ (.int .u32 (q'.a.toNat : Int))).setCell ⟨w.heap.size, 1, none⟩ (.int .u32 (q'.b.toNat : Int))).setCell ⟨w.heap.size, 2, none⟩ (.int .u32 (q'.c.toNat : Int))).setCell ⟨w.heap.size, 3, none⟩ (.int .u32 (q'.d.toNat : Int)) = wf
      have HWF : Hid (wf.heap[w.heap.size]? = some (.cells (regV q') 73 (0, 0)) ∧ Below w.heap.size w wf) := by
        rw [← hwf]
        constructor
        · rw [block_setCell _ _ _ _ _ _ (block_setCell _ _ _ _ _ _ (block_setCell _ _ _ _ _ _ (block_setCell _ _ _ _ _ _ G1.out.1)))]
          rfl
        · exact (((G1.out.2.setCell (by simp) _).setCell (by simp) _).setCell (by simp) _).setCell (by simp) _
      clear hwf
      go_wp2
      go_roundw
      case rel => exact ⟨k + 1, p', by omega, HPK.out, rfl, by rw [HQ'.out]; exact HWF.out.1, HWF.out.2⟩
      case measure =>
        have h1 := HPK.out
        simp [intOf]
        omega
    · have hkK : k = K := by omega
      have hnl : ¬ ((p : Int) + 64 ≤ (X.size : Int)) := by omega
      have hpm : (p : Int) + 64 ≤ 9223372036854775807 := by omega
      have H3 : Hid (wr.heap[w.heap.size]? = some (.cells (regV (mblocks q0 L K)) 73 (0, 0)) ∧ Below w.heap.size w wr) := by
        rw [hkK] at hblk
        exact ⟨hblk, hbel⟩
      clear hblk hbel hkK hp hxs
      generalize mblocks q0 L K = Q at *
      go_wp2_with fail
      clear hpm hnl hK hk hlt HXS HXB
      go_loopw [9, 10] (fun o t wy => ∃ i : Nat, i ≤ 4 ∧ o = .string (textOf (outN Q i)) ∧ t = .int .i64 (i : Int) ∧ wy.heap[w.heap.size]? = some (.cells (regV Q) 73 (0, 0)) ∧ Below w.heap.size w wy) (fun _ t _ => 4 - (intOf t).toNat)
      case atStart => exact ⟨0, Nat.zero_le _, rfl, rfl, H3.out.1, H3.out.2⟩
      case round =>
        clear H3
        obtain ⟨i, hi, rfl, rfl, hblk, hbel⟩ := hrel
        by_cases h4 : i < 4
        · have hci : wr.cell? ⟨w.heap.size, i, none⟩ = some (.int .u32 (regN Q i : Int)) := by rw [cell_of_row _ _ _ _ _ _ hblk]; exact regN_cell Q i h4
          have hrl := regN_lt Q i
          have kl := fun w => refle_spec (regN Q i : Int) 4 (by omega) (by omega) w
          have e4 : leT (regN Q i : Int) 4 = textOf (lowL (regN Q i) 4) := le_text (regN Q i) 4 (by decide) (by decide) (by
            have : (256 : Nat) ^ 4 = 4294967296 := by decide
            omega)
          rw [e4] at kl
          have hsz : (textOf (outN Q i)).size ≤ 16 := by rw [textOf_size, outN_lt]; omega
          have hsz2 : (textOf (lowL (regN Q i) 4)).size = 4 := by rw [textOf_size, lowL_length]
          have HJ : Hid (textOf (outN Q i) ++ textOf (lowL (regN Q i) 4) = textOf (outN Q (i + 1))) := textOf_append _ _
          have HH : Hid (wr.heap[w.heap.size]? = some (.cells (regV Q) 73 (0, 0)) ∧ Below w.heap.size w wr) := ⟨hblk, hbel⟩
          clear hblk hbel e4
          generalize textOf (lowL (regN Q i) 4) = piece at *
          generalize wE (regN Q i : Int) 4 = er2 at *
          generalize regN Q i = rn at *
          go_wp2_with fail
          refine (kl wr).mono ?_
          rintro e w3 ⟨rfl, hB⟩
          have HH3 : Hid (w3.heap[w.heap.size]? = some (.cells (regV Q) 73 (0, 0)) ∧ Below w.heap.size w w3) :=
            ⟨by rw [hB.block _ (lt_of_block HH.out.1)]; exact HH.out.1, HH.out.2.trans (hB.mono HH.out.2.size)⟩
          clear hB
          go_wp2_with fail
          rw [HJ.out]
          go_wp2
          go_roundw
          case rel => exact ⟨i + 1, by omega, rfl, by go_num, HH3.out.1, HH3.out.2⟩
          case measure => simp [intOf]; omega
        · have hi4 : i = 4 := by omega
          have HO : Hid (outN Q i = md5 (bytesOf s)) := by
            show _ = _
            rw [hi4, outN_four, HQ.out]
          have HBE : Hid (Below w.heap.size w wr) := hbel
          clear hi4 hbel hblk
          go_wp2
          go_ret
          exact ⟨by rw [← HO.out]; rfl, HBE.out⟩

end Go.Proofs.YtolmijpecomkcaaDoor
