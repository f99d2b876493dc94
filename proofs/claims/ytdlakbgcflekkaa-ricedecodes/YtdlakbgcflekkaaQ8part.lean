/- Own text: the walk of the program's writePart. -/
import Derived.Test.YtdlakbgcflekkaaQ8write
namespace Go.Proofs.Ytdlakbgcflekkaa
open Go.RowKit
set_option linter.unusedSimpArgs false
set_option linter.unusedVariables false
set_option maxRecDepth 20000 in
set_option maxHeartbeats 3200000 in
theorem writePart_spec (c : Rc) (b o r i : Nat) (h : Rok c b o r) (hi : i < 2 ^ o) (X : List Int) (hX : ∀ x ∈ X, fitE (c.P.getD i 0) (c.E.getD i 0) x) (pa : Option Addr) (pc : Nat) (ea : Option Addr) (ec : Nat) (xo : Option Addr) (cap : Nat) (p : Nat) (ao : Option Addr) (B : List Nat) (h01 : Bits01 B) (hB : B.length + 17000000 * X.length ≤ 600000000000) (w : World) (hr : RcAt w c pa ea) (hx : IntsAt w xo X) (hw : WrB w p ao B) (a1 : Apart p ao pa c.P) (a2 : Apart p ao ea c.E) (a3 : Apart p ao xo X) :
    Calls Try.prog 34 #[.pointer (some ⟨p, 0, none⟩), riceV c pa pc ea ec, .int .i64 (i : Int), .slice xo X.length cap] w fun en w' => en = .returned (.tuple #[]) ∧ ∃ ao', WrB w' p ao' (B ++ numsB (c.P.getD i 0) (c.E.getD i 0) X) ∧ Stays (foot p ao) w w' ∧ Moved w.heap.size ao ao' := by
  have hjP : i < c.P.length := by rw [h.lP]; exact hi
  have hjE : i < c.E.length := by rw [h.lE]; exact hi
  obtain ⟨b1, o1, rfl⟩ := hr.P.addr (by omega)
  obtain ⟨b2, o2, rfl⟩ := hr.E.addr (by omega)
  have hrow := h.row i hi
  have hi2 : i < 32768 := by have := (pow15 o h.cut.o15).2; omega
  have hlX := hx.len
  have HA : Hid (WB w p ao ao B (w.heap.size + 1) (w.alloc (.cells (riceC c (some ⟨b1, o1, none⟩) pc (some ⟨b2, o2, none⟩) ec) 24))) := WB.start hw ((Below.refl _ _).alloc (Nat.le_refl _) _) _ (by simp)
  have HBX : Hid ((w.alloc (.cells (riceC c (some ⟨b1, o1, none⟩) pc (some ⟨b2, o2, none⟩) ec) 24)).heap[w.heap.size]? = some (.cells (riceC c (some ⟨b1, o1, none⟩) pc (some ⟨b2, o2, none⟩) ec) 24 (0, 0))) := heap_alloc_new _ _
  have HPE : Hid (∀ ao' B' K wx, WB w p ao ao' B' K wx → wx.cell? ⟨b1, o1 + i, none⟩ = some (.int .i64 (c.P.getD i 0)) ∧ wx.cell? ⟨b2, o2 + i, none⟩ = some (.int .i64 (c.E.getD i 0)) ∧ IntsAt wx xo X) := fun ao' B' K wx hh => ⟨(hh.ints hr.P a1).get i hjP, (hh.ints hr.E a2).get i hjE, hh.ints hx a3⟩
  have HN : Hid (∀ x ∈ X, -9223372036854775808 ≤ x ∧ x ≤ 9223372036854775807) := hx.num
  have HXA : Hid (∀ j, j < X.length → ∃ b off, xo = some ⟨b, off, none⟩) := fun j hj => hx.addr (by omega)
  clear h hr hw a1 a2 hx
  generalize c.P.getD i 0 = kk at *
  generalize c.E.getD i 0 = ee at *
  have HFT : Hid (∀ x ∈ X, fitE kk ee x) := hX
  clear hX
  go_enter Try.func34, Try.ntmps34
  go_wp2_with fail
  generalize hwa : w.alloc _ = wa at *
  clear hwa
  go_loopw [9, 10, 13, 27, 37] (fun s9 s10 s13 s27 s37 wr => ∃ (j : Nat) (aj : Option Addr), j ≤ X.length ∧ s13 = .int .i64 (j : Int) ∧ WB w p ao aj (B ++ numsB kk ee (X.take j)) (w.heap.size + 1) wr ∧ wr.heap[w.heap.size]? = some (.cells (riceC c (some ⟨b1, o1, none⟩) pc (some ⟨b2, o2, none⟩) ec) 24 (0, 0))) (fun _ _ s13 _ _ _ => X.length - (intOf s13).toNat)
  case atStart => exact ⟨0, ao, Nat.zero_le _, rfl, by rw [List.take_zero, numsB_nil, List.append_nil]; exact HA.out, HBX.out⟩
  case round =>
    clear HA HBX
    obtain ⟨j, aj, hj, rfl, hwb, hbx⟩ := hrel
    have HA : Hid (WB w p ao aj (B ++ numsB kk ee (X.take j)) (w.heap.size + 1) wr) := hwb
    have HBX : Hid (wr.heap[w.heap.size]? = some (.cells (riceC c (some ⟨b1, o1, none⟩) pc (some ⟨b2, o2, none⟩) ec) 24 (0, 0))) := hbx
    clear hwb hbx
    by_cases hlt : j < X.length
    · obtain ⟨bx, ox, rfl⟩ := HXA.out j hlt
      obtain ⟨r1, r2, hxx⟩ := HPE.out _ _ _ _ HA.out
      have r3 := hxx.get j hlt
      obtain ⟨x0, x1, x2, x3⟩ := RB.of_box HBX.out
      have hft := HFT.out _ (getD_mem X j hlt)
      have hnn := HN.out _ (getD_mem X j hlt)
      have HT : Hid (numsB kk ee (X.take (j + 1)) = numsB kk ee (X.take j) ++ oneB kk ee (X.getD j 0)) := by show _ = _; rw [take_snoc X j hlt, numsB_snoc]
      have hlen : (B ++ numsB kk ee (X.take j)).length ≤ 600000000000 := by
        rw [List.length_append]
        have := numsB_len kk ee (X.take j)
        rw [List.length_take] at this
        have : 17000000 * min j X.length ≤ 17000000 * X.length := Nat.mul_le_mul_left _ (Nat.min_le_right _ _)
        omega
      have h01' : Bits01 (B ++ numsB kk ee (X.take j)) := h01.append (numsB_01 _ _ _)
      clear hxx
      generalize X.getD j 0 = x at *
      generalize hBJ : B ++ numsB kk ee (X.take j) = BJ at *
      have HGO : Hid (B ++ numsB kk ee (X.take (j + 1)) = BJ ++ oneB kk ee x) := by show _ = _; rw [HT.out, ← List.append_assoc, hBJ]
      clear hBJ HT
      rcases hrow with ⟨rfl, k0, k1⟩ | ⟨e0, e1, rfl⟩
      · have HOB : Hid (oneB kk (-1) x = rcwB x kk) := by show _ = _; unfold oneB; rw [if_pos rfl]
        have kp := wric_all wr aj BJ p x kk hnn.1 hnn.2 h01' (by omega) HA.out.wr
        clear hft
        go_wp2_with fail
        refine kp.mono ?_
        rintro e w3 ⟨rfl, ao3, hw3, hs3, hv3⟩
        have HE : Hid (WB w p ao ao3 (BJ ++ rcwB x kk) (w.heap.size + 1) w3) := HA.out.put hw3 hs3 hv3
        have HB3 : Hid (w3.heap[w.heap.size]? = some (.cells (riceC c (some ⟨b1, o1, none⟩) pc (some ⟨b2, o2, none⟩) ec) 24 (0, 0))) := by show _ = _; rw [HA.out.box hs3 _ (Nat.le_refl _) (by omega)]; exact HBX.out
        clear hw3 hs3 hv3 kp x0 x1 x2 x3 r1 r2 r3
        go_wp2_with fail
        go_roundw
        case rel => exact ⟨j + 1, ao3, by omega, by go_num, by rw [HGO.out, HOB.out]; exact HE.out, HB3.out⟩
        case measure => simp [intOf]; omega
      · obtain ⟨en, rfl⟩ : ∃ n : Nat, ee = n := ⟨ee.toNat, by omega⟩
        have hbe : ((en : Int) == -1) = false := by rw [beq_eq_false_iff_ne]; omega
        by_cases hz : en = 0
        · subst hz
          have HOB : Hid (oneB 0 ((0 : Nat) : Int) x = []) := by show _ = _; unfold oneB; rw [if_neg (by decide), if_pos (show ((0 : Nat) : Int) = 0 from rfl)]
          clear hft
          go_wp2_with fail
          go_roundw
          case rel => exact ⟨j + 1, aj, by omega, by go_num, by rw [HGO.out, HOB.out, List.append_nil]; exact HA.out, HBX.out⟩
          case measure => simp [intOf]; omega
        · have hbz : ((en : Int) == 0) = false := by rw [beq_eq_false_iff_ne]; omega
          have HOB : Hid (oneB 0 (en : Int) x = sigB x (en : Int)) := by show _ = _; unfold oneB; rw [if_neg (by omega), if_neg (by omega)]
          have kp := wsig_all wr aj BJ p x (en : Int) h01' (by omega) HA.out.wr
          clear hft
          go_wp2_with fail
          refine kp.mono ?_
          rintro e w3 ⟨rfl, ao3, hw3, hs3, hv3⟩
          have HE : Hid (WB w p ao ao3 (BJ ++ sigB x (en : Int)) (w.heap.size + 1) w3) := HA.out.put hw3 hs3 hv3
          have HB3 : Hid (w3.heap[w.heap.size]? = some (.cells (riceC c (some ⟨b1, o1, none⟩) pc (some ⟨b2, o2, none⟩) ec) 24 (0, 0))) := by show _ = _; rw [HA.out.box hs3 _ (Nat.le_refl _) (by omega)]; exact HBX.out
          clear hw3 hs3 hv3 kp x0 x1 x2 x3 r1 r2 r3
          go_wp2_with fail
          go_roundw
          case rel => exact ⟨j + 1, ao3, by omega, by go_num, by rw [HGO.out, HOB.out]; exact HE.out, HB3.out⟩
          case measure => simp [intOf]; omega
    · have HE : Hid (X.take j = X) := List.take_of_length_le (by omega)
      go_wp2_with fail
      go_end0
      exact ⟨rfl, aj, by have := HA.out.wr; rw [HE.out] at this; exact this, HA.out.st, HA.out.mv⟩

end Go.Proofs.Ytdlakbgcflekkaa
