/- Own text: the walk of the document's Digest. -/
import Derived.Test.YtolmijpecomkcaaDoorP5pack2
import Derived.Test.YtolmijpecomkcaaDoorMdof
namespace Go.Proofs.YtolmijpecomkcaaDoor
open Go.RowKit
set_option linter.unusedSimpArgs false
set_option linter.unusedVariables false

theorem packN_size (p : Pcm) (big uns : Bool) : (packN p big uns).size ≤ 100000000 := by
  unfold packN
  split
  · rename_i hc
    obtain ⟨hh, hlp, _⟩ := check_zero p hc
    obtain ⟨_, _, c1, c2, w1, w2, _⟩ := head_parts p hh
    obtain ⟨_, n2, _, _⟩ := nby_range p.wd w1 w2
    rw [textOf_size, packL_length]
    have h1 : lenP p * (p.ch.toNat * nby p.wd) ≤ 1048576 * (8 * 4) := Nat.mul_le_mul (by omega) (Nat.mul_le_mul (by omega) n2)
    omega
  · exact Nat.zero_le _

/-- Digest's answer. -/
def digN (p : Pcm) : ByteArray := if checkN p = 0 then textOf (md5 (bytesOf (packN p false false))) else ⟨#[]⟩

set_option maxRecDepth 20000 in
set_option maxHeartbeats 3200000 in
theorem rdigest_spec (p : Pcm) (ao : Option Addr) (cap : Nat) (w : World) (hr : RowsAt w ao p.pl) :
    Calls Tryd.prog 7 #[pcmV p ao cap] w fun e w' => e = .returned (.tuple #[.string (digN p), .int .i64 (checkN p)]) ∧ Below w.heap.size w w' := by
  have HB0 : Hid (Bx w p ao cap (w.alloc (.cells (pcmC p ao cap) 24))) := Bx.new w p ao cap
  have KP : Hid (∀ wx, Hid (Bx w p ao cap wx) → Calls Tryd.prog 5 #[pcmV p ao cap, .agg #[.bool false, .bool false]] wx fun e w' => e = .returned (.tuple #[.string (packN p false false), .int .i64 (checkN p)]) ∧ Hid (Bx w p ao cap w')) := fun wx hx =>
    (rpack_spec p ao cap false false wx (hr.below hx.out.below)).mono fun e w' h => ⟨h.1, hx.out.next h.2⟩
  have hsz := packN_size p false false
  have KO := fun wx => refOf_spec (packN p false false) (by omega) wx
  clear hr
  by_cases hc : checkN p = 0
  · have HD : Hid (digN p = textOf (md5 (bytesOf (packN p false false)))) := by
      show _ = _
      unfold digN
      rw [if_pos hc]
    have HC : Hid (checkN p = 0) := hc
    rw [hc] at KP
    clear hc
    generalize packN p false false = s at *
    go_enter Tryd.func7, Tryd.ntmps7
    go_wp2_with fail
    generalize hwa : w.alloc _ = wa
    have HA : Hid (Bx w p ao cap wa) := by
      rw [← hwa]
      exact HB0.out
    clear hwa HB0
    refine (KP.out wa HA).mono ?_
    rintro e w4 ⟨rfl, h4⟩
    go_wp2_with fail
    refine (KO w4).mono ?_
    rintro e w5 ⟨rfl, hB⟩
    have H5 : Hid (Bx w p ao cap w5) := h4.out.next hB
    clear hB
    go_wp2
    go_ret2
    exact ⟨by rw [HD.out, HC.out]; rfl, H5.out.below⟩
  · have HD : Hid (digN p = ⟨#[]⟩) := by
      show _ = _
      unfold digN
      rw [if_neg hc]
    generalize packN p false false = s at *
    go_enter Tryd.func7, Tryd.ntmps7
    go_wp2_with fail
    generalize hwa : w.alloc _ = wa
    have HA : Hid (Bx w p ao cap wa) := by
      rw [← hwa]
      exact HB0.out
    clear hwa HB0
    refine (KP.out wa HA).mono ?_
    rintro e w4 ⟨rfl, h4⟩
    go_wp2
    go_ret2
    exact ⟨by rw [HD.out]; rfl, h4.out.below⟩

end Go.Proofs.YtolmijpecomkcaaDoor
