/- Own text: the walks of mayStand, sizeOf, head. -/
import Derived.Test.YtfmpiidnemhijaaDoorQ13mem
namespace Go.Proofs.YtfmpiidnemhijaaDoor
open Go.RowKit
set_option linter.unusedSimpArgs false
set_option linter.unusedVariables false

theorem stdB_step (l : List Blk) (k : Nat) (b : Blk) (hc : Bool) (h : l[k]? = some b) : stdB (l.drop k) k hc = (decide (rtE k hc b = 0) && stdB (l.drop (k + 1)) (k + 1) (cmt hc b)) := by
  obtain ⟨h1, rfl⟩ := List.getElem?_eq_some_iff.1 h
  rw [List.drop_eq_getElem_cons h1]
  rfl
set_option maxRecDepth 20000 in
set_option maxHeartbeats 3200000 in
theorem mayStand_any (l : List Blk) (ao : Option Addr) (cap : Nat) (w : World) (hl : BlksAt w ao l) (hs : ∀ b ∈ l, b.body.size ≤ 140737488351232) (hll : l.length ≤ 9000000000000000) (hW : WidAt w) :
    Calls Tryd.prog 34 #[.slice ao l.length cap] w fun e w' => e = .returned (.bool (mayS l)) ∧ Below w.heap.size w w' := by
  have hgw : 0 < w.heap.size := hW.lt
  have HL : Hid (BlksAt w ao l) := hl
  have HS : Hid (∀ b ∈ l, b.body.size ≤ 140737488351232) := hs
  have HR0 : Hid (Rw (w.alloc (.cells #[.int .i64 0, .bool false] 70)) w.heap.size 0 false ∧ Below w.heap.size w (w.alloc (.cells #[.int .i64 0, .bool false] 70))) := ⟨heap_alloc_new _ _, (Below.refl _ _).alloc (Nat.le_refl _) _⟩
  have KT : Hid (∀ c hc b wx, c ≤ 1024 → b.body.size ≤ 140737488351232 → Below w.heap.size w wx → Rw wx w.heap.size c hc → Calls Tryd.prog 31 #[.pointer (some ⟨w.heap.size, 0, none⟩), blkV b] wx fun e w' => RtP wx w.heap.size c hc b e w') := fun c hc b wx h1 h2 h3 h4 => rtake_any _ c hc h1 b h2 wx (hW.below h3) hgw h4
  have HM : Hid (mayS l = (stdB l 0 false && decide (0 < l.length))) := rfl
  clear hl hs hW hgw
  go_enter Tryd.func34, Tryd.ntmps34
  go_wp2_with fail
  go_loopw [8] (fun t wr => ∃ (k : Nat) (hc : Bool), k ≤ l.length ∧ k ≤ 1024 ∧ t = .int .i64 (k : Int) ∧ stdB l 0 false = stdB (l.drop k) k hc ∧ Rw wr w.heap.size k hc ∧ Below w.heap.size w wr) (fun t _ => l.length - (intOf t).toNat)
  case atStart => exact ⟨0, false, Nat.zero_le _, Nat.zero_le _, rfl, rfl, HR0.out.1, HR0.out.2⟩
  case round =>
    clear HR0
    obtain ⟨k, hc, hk, hk2, rfl, hst, hr, hbl⟩ := hrel
    have HST : Hid (stdB l 0 false = stdB (l.drop k) k hc) := hst
    have HR : Hid (Rw wr w.heap.size k hc) := hr
    have HBL : Hid (Below w.heap.size w wr) := hbl
    clear hst hr hbl
    by_cases hlt : k < l.length
    · obtain ⟨b, hb⟩ : ∃ b, l[k]? = some b := ⟨_, List.getElem?_eq_getElem hlt⟩
      obtain ⟨g, off, rfl, hcl⟩ := HL.out.at k b hb
      obtain ⟨x0, x1⟩ := hcl wr HBL.out
      have hbs := HS.out b (List.mem_of_getElem? hb)
      have HS2 : Hid (stdB l 0 false = (decide (rtE k hc b = 0) && stdB (l.drop (k + 1)) (k + 1) (cmt hc b))) := HST.out.trans (stdB_step l k b hc hb)
      have HRa : Hid (Rw (wr.alloc (.cells (blkC b) 36)) w.heap.size k hc ∧ Below w.heap.size w (wr.alloc (.cells (blkC b) 36))) := ⟨HR.out.low ((Below.refl _ _).alloc (Nat.le_refl _) _), HBL.out.alloc HBL.out.size _⟩
      clear hcl hb HST HR HBL
      go_wp2_with fail
      generalize World.alloc wr _ = wa at *
      refine (KT.out k hc b wa hk2 hbs HRa.out.2 HRa.out.1).mono ?_
      rintro e w4 h4
      have he4 := h4.1
      subst he4
      have HR4 : Hid (RtP wa w.heap.size k hc b (.returned (.int .i64 (rtE k hc b))) w4) := h4
      have HB4 : Hid (Below w.heap.size w w4) := HRa.out.2.trans (only_below h4.2.1 HRa.out.2.size (Nat.le_refl _))
      clear h4 HRa x0 x1
      by_cases h0 : rtE k hc b = 0
      · have HRN : Hid (Rw w4 w.heap.size (k + 1) (cmt hc b)) := HR4.out.2.2 h0
        have HSN : Hid (stdB l 0 false = stdB (l.drop (k + 1)) (k + 1) (cmt hc b)) := HS2.out.trans (by rw [decide_eq_true h0, Bool.true_and])
        have hnl := (rtE_zero h0).2.2.2.1
        rw [h0]
        clear HS2 HR4 h0
        go_wp2_with fail
        go_roundw
        case rel => exact ⟨k + 1, cmt hc b, by omega, by omega, by go_num, HSN.out, HRN.out, HB4.out⟩
        case measure => simp [intOf]; omega
      · have hb0 : (rtE k hc b != 0) = true := by rw [bne_iff_ne]; exact h0
        have HE : Hid (mayS l = false) := HM.out.trans (by rw [HS2.out, decide_eq_false h0]; rfl)
        generalize rtE k hc b = E at *
        clear HS2 HR4 h0
        go_wp2_with fail
        go_ret
        exact ⟨by rw [HE.out]; rfl, HB4.out⟩
    · have hkl : k = l.length := by omega
      have HE : Hid (mayS l = decide (0 < l.length)) := HM.out.trans (by
        rw [HST.out, hkl, List.drop_length]
        show (true && _) = _
        rw [Bool.true_and])
      clear HST hkl
      go_wp2_with fail
      go_ret
      exact ⟨by rw [HE.out]; rfl, HBL.out⟩
def sizL (l : List Blk) : Nat := (l.map fun b => 4 + b.body.size).sum
theorem sizL_take (l : List Blk) (k : Nat) (b : Blk) (h : l[k]? = some b) : sizL (l.take (k + 1)) = sizL (l.take k) + (4 + b.body.size) := by
  obtain ⟨hi, rfl⟩ := List.getElem?_eq_some_iff.1 h
  unfold sizL
  rw [List.take_succ_eq_append_getElem hi, List.map_append, List.sum_append]
  simp
theorem sizL_le (l : List Blk) (m : Nat) (h : ∀ b ∈ l, b.body.size ≤ m) : sizL l ≤ l.length * (4 + m) := by
  induction l with
  | nil => simp [sizL]
  | cons c t ih =>
    have h1 := ih fun b hb => h b (List.mem_cons_of_mem _ hb)
    have h2 := h c (by simp)
    have e : sizL (c :: t) = (4 + c.body.size) + sizL t := by simp [sizL]
    rw [e, List.length_cons, Nat.succ_mul]
    omega
set_option maxRecDepth 20000 in
set_option maxHeartbeats 3200000 in
theorem sizeOf_any (l : List Blk) (ao : Option Addr) (cap : Nat) (w : World) (hl : BlksAt w ao l) (hs : ∀ b ∈ l, b.body.size ≤ 16777215) (hll : l.length ≤ 1024) :
    Calls Tryd.prog 36 #[.slice ao l.length cap] w fun e w' => e = .returned (.int .i64 (sizL l : Int)) ∧ Below w.heap.size w w' := by
  have HL : Hid (BlksAt w ao l) := hl
  have HS : Hid (∀ b ∈ l, b.body.size ≤ 16777215) := hs
  clear hl hs
  go_enter Tryd.func36, Tryd.ntmps36
  go_wp2_with fail
  go_loopw [3, 8] (fun z t wr => ∃ k : Nat, k ≤ l.length ∧ t = .int .i64 (k : Int) ∧ z = .int .i64 (sizL (l.take k) : Int) ∧ Below w.heap.size w wr) (fun _ t _ => l.length - (intOf t).toNat)
  case atStart => exact ⟨0, Nat.zero_le _, rfl, rfl, Below.refl _ _⟩
  case round =>
    obtain ⟨k, hk, rfl, rfl, hbl⟩ := hrel
    have HBL : Hid (Below w.heap.size w wr) := hbl
    clear hbl
    by_cases hlt : k < l.length
    · obtain ⟨b, hb⟩ : ∃ b, l[k]? = some b := ⟨_, List.getElem?_eq_getElem hlt⟩
      obtain ⟨g, off, rfl, hcl⟩ := HL.out.at k b hb
      obtain ⟨x0, x1⟩ := hcl wr HBL.out
      have hbs := HS.out b (List.mem_of_getElem? hb)
      have hle := sizL_le (l.take k) 16777215 fun b hb => HS.out b (List.mem_of_mem_take hb)
      have hlk : (l.take k).length ≤ 1024 := by rw [List.length_take]; omega
      have hle2 : sizL (l.take k) ≤ 20000000000 := Nat.le_trans hle (Nat.le_trans (Nat.mul_le_mul_right _ hlk) (by decide))
      have HST : Hid (((sizL (l.take k) : Nat) : Int) + (4 + (b.body.size : Int)) = ((sizL (l.take (k + 1)) : Nat) : Int)) := by
        show _ = _
        rw [sizL_take l k b hb]
        omega
      have HBa : Hid (Below w.heap.size w (wr.alloc (.cells (blkC b) 36))) := HBL.out.alloc HBL.out.size _
      clear hcl hb hle hlk HBL
      generalize sizL (l.take k) = Z at *
      go_wp2_with fail
      go_roundw
      case rel => exact ⟨k + 1, by omega, by go_num, by first | rw [← HST.out] | (rw [← HST.out]; go_num), HBa.out⟩
      case measure => simp [intOf]; omega
    · have hkl : l.take k = l := List.take_of_length_le (by omega)
      rw [hkl]
      clear hkl
      go_wp2_with fail
      go_ret
      exact ⟨rfl, HBL.out⟩
theorem hed_text (b : Blk) (last : Bool) (h0 : 0 ≤ b.ty) (h1 : b.ty ≤ 126) (h2 : b.body.size ≤ 16777215) : S2.beT (b.ty + if last then 128 else 0) 1 ++ S2.beT (b.body.size : Int) 3 = textOf (hedL b last) := by
  have e1 : S2.beT (b.ty + if last then 128 else 0) 1 = textOf [b.ty.toNat + if last then 128 else 0] := by
    have hx : b.ty + (if last then 128 else 0) = ((b.ty.toNat + if last then 128 else 0 : Nat) : Int) := by cases last <;> simp <;> omega
    rw [hx]
    have hf : S2.fitsB (((b.ty.toNat + if last then 128 else 0 : Nat)) : Int) ((1 : Nat) : Int) = true := S2.fits_of_nat _ 1 (by decide) (by decide) (by cases last <;> simp <;> omega)
    have := S2.beT_nat _ 1 hf
    rw [show ((1 : Nat) : Int) = 1 from rfl] at this
    have hN : b.ty.toNat + (if last then 128 else 0) < 256 := by cases last <;> simp <;> omega
    generalize b.ty.toNat + (if last then 128 else 0) = M at *
    rw [this, S2.highL_succ M 0, Nat.mod_eq_of_lt hN]
    rfl
  have e2 : S2.beT (b.body.size : Int) 3 = textOf (S2.highL b.body.size 3) := S2.beT_nat _ 3 (S2.fits_of_nat _ 3 (by decide) (by decide) (by omega))
  rw [e1, e2, S2.textOf_append]
  rfl
set_option maxRecDepth 20000 in
set_option maxHeartbeats 3200000 in
theorem head_any (b : Blk) (last : Bool) (h0 : 0 ≤ b.ty) (h1 : b.ty ≤ 126) (h2 : b.body.size ≤ 16777215) (w : World) :
    Calls Tryd.prog 38 #[blkV b, .bool last] w fun e w' => e = .returned (.string (textOf (hedL b last))) ∧ Below w.heap.size w w' := by
  have HZ : Hid ((w.alloc (.cells (blkC b) 36)).heap[w.heap.size]? = some (.cells (blkC b) 36 (0, 0)) ∧ Below w.heap.size w (w.alloc (.cells (blkC b) 36))) := ⟨heap_alloc_new _ _, (Below.refl _ _).alloc (Nat.le_refl _) _⟩
  have HT : Hid (S2.beT (b.ty + if last then 128 else 0) 1 ++ S2.beT (b.body.size : Int) 3 = textOf (hedL b last)) := hed_text b last h0 h1 h2
  have k3 := fun wx => S2.be_spec (b.body.size : Int) 3 (by omega) (by omega) wx
  have k1 := fun wx => S2.be_spec (b.ty + if last then 128 else 0) 1 (by split <;> omega) (by split <;> omega) wx
  have hz1 := S2.beT_size (b.ty + if last then 128 else 0) 1
  have hz3 := S2.beT_size (b.body.size : Int) 3
  generalize textOf (hedL b last) = TT at *
  generalize S2.beT (b.body.size : Int) 3 = T3 at *
  generalize S2.wE (b.body.size : Int) 3 = E3 at *
  cases last
  · have e0 : b.ty + (if false = true then 128 else 0) = b.ty := by simp
    rw [e0] at k1 HT hz1
    generalize S2.beT b.ty 1 = T1 at *
    generalize S2.wE b.ty 1 = E1 at *
    clear e0
    go_enter Tryd.func38, Tryd.ntmps38
    go_wp2_with fail
    refine (k1 _).mono ?_
    rintro e w1 ⟨rfl, hb1⟩
    have HZ1 : Hid (w1.heap[w.heap.size]? = some (.cells (blkC b) 36 (0, 0)) ∧ Below w.heap.size w w1) := ⟨by rw [hb1.block _ (lt_of_block HZ.out.1)]; exact HZ.out.1, HZ.out.2.trans (hb1.mono HZ.out.2.size)⟩
    have c1 := (blk_cells HZ1.out.1).2
    clear hb1 HZ k1
    go_wp2_with fail
    refine (k3 _).mono ?_
    rintro e w2 ⟨rfl, hb2⟩
    have HB2 : Hid (Below w.heap.size w w2) := HZ1.out.2.trans (hb2.mono HZ1.out.2.size)
    clear hb2 c1 k3 HZ1
    go_wp2_with fail
    go_ret
    exact ⟨by rw [← HT.out]; rfl, HB2.out⟩
  · have e0 : b.ty + (if true = true then 128 else 0) = b.ty + 128 := by simp
    rw [e0] at k1 HT hz1
    generalize S2.beT (b.ty + 128) 1 = T1 at *
    generalize S2.wE (b.ty + 128) 1 = E1 at *
    clear e0
    go_enter Tryd.func38, Tryd.ntmps38
    go_wp2_with fail
    refine (k1 _).mono ?_
    rintro e w1 ⟨rfl, hb1⟩
    have HZ1 : Hid (w1.heap[w.heap.size]? = some (.cells (blkC b) 36 (0, 0)) ∧ Below w.heap.size w w1) := ⟨by rw [hb1.block _ (lt_of_block HZ.out.1)]; exact HZ.out.1, HZ.out.2.trans (hb1.mono HZ.out.2.size)⟩
    have c1 := (blk_cells HZ1.out.1).2
    clear hb1 HZ k1
    go_wp2_with fail
    refine (k3 _).mono ?_
    rintro e w2 ⟨rfl, hb2⟩
    have HB2 : Hid (Below w.heap.size w w2) := HZ1.out.2.trans (hb2.mono HZ1.out.2.size)
    clear hb2 c1 k3 HZ1
    go_wp2_with fail
    go_ret
    exact ⟨by rw [← HT.out]; rfl, HB2.out⟩

end Go.Proofs.YtfmpiidnemhijaaDoor
