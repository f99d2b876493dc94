/- Own text: the walks of soundIn and of a sound's plain. -/
import Derived.Test.YtfnkdahocehilaaGreatG19x
import Derived.Test.YtfnkdahocehilaaGreatG15x
namespace Go.Proofs.YtfnkdahocehilaaGreat
open Go.RowKit
set_option linter.unusedSimpArgs false
set_option linter.unusedVariables false

def sndP (p : Pcm) : Snd := ⟨p.rate, p.ch, p.wd⟩
set_option maxRecDepth 20000 in
set_option maxHeartbeats 6400000 in
theorem soundIn_spec (p : Pcm) (ao : Option Addr) (cap : Nat) (w : World) :
    Calls Tryz.prog 34 #[pcmV p ao cap] w fun e w' => e = .returned (sndV (sndP p)) ∧ Below w.heap.size w w' := by
  go_enter Tryz.func34, Tryz.ntmps34
  go_wp2_with fail
  generalize hwf : World.alloc (World.alloc w _) _ = wf
  have hrow : wf.heap[w.heap.size + 1]? = some (.cells (sndC (sndP p)) 73 (0, 0)) := by
    rw [← hwf, ← show (w.alloc (.cells (pcmC p ao cap) 37)).heap.size = w.heap.size + 1 from by simp]
    exact heap_alloc_new _ _
  have hbel : Below w.heap.size w wf := by
    rw [← hwf]
    exact ((Below.refl _ _).alloc (Nat.le_refl _) _).alloc (by simp) _
  refine bodyPost_ret (v := sndV (sndP p)) ?_ rfl ⟨rfl, hbel⟩
  rw [res_one rfl]
  have hld := run_loadVar_row (P := Tryz.prog) wf (w.heap.size + 1) 73 73 (sndC (sndP p)) (0, 0) _ hrow Tryz.underlying73 rfl infoS
  simp [asAddr, Result.andThen, hld]

def plainT (a : Snd) : ByteArray := if a.ch ≤ 2 ∧ a.wd ≤ 16 then bodyT a 16 ⟨#[]⟩ else bodyT a 40 (leT (2 ^ a.ch.toNat - 1) 4)
set_option maxRecDepth 20000 in
set_option maxHeartbeats 6400000 in
theorem splain_short (a : Snd) (h : FairS a) (h1 : a.ch ≤ 2) (h2 : a.wd ≤ 16) (w : World) :
    Calls Tryz.prog 43 #[sndV a] w fun e w' => e = .returned (.string (plainT a)) ∧ Below w.heap.size w w' := by
  have HT : Hid (plainT a = bodyT a 16 ⟨#[]⟩) := if_pos ⟨h1, h2⟩
  have HB : Hid (Below w.heap.size w (w.alloc (.cells (sndC a) 73))) := (Below.refl _ _).alloc (Nat.le_refl _) _
  have kb := body_16 a h ⟨#[]⟩ (by decide) (w.alloc (.cells (sndC a) 73))
  generalize bodyT a 16 ⟨#[]⟩ = X at *
  have h1b : decide (a.ch ≤ 2) = true := decide_eq_true h1
  have h2b : decide (a.wd ≤ 16) = true := decide_eq_true h2
  clear h
  go_enter Tryz.func43, Tryz.ntmps43
  go_wp2_with fail
  refine kb.mono ?_
  rintro e w2 ⟨rfl, hB⟩
  have HB2 : Hid (Below w.heap.size w w2) := HB.out.trans (hB.mono HB.out.size)
  clear kb hB
  go_wp2_with fail
  go_ret
  exact ⟨by rw [HT.out]; rfl, HB2.out⟩
theorem shl_run (ch : Int) (h0 : 0 ≤ ch) (h8 : ch ≤ 8) (w : World) : (Op.shift BinOp.shl IntKind.i64 1 IntKind.i64 ch).run Tryz.prog w = .ok (.int .i64 (2 ^ ch.toNat)) w := by
  have : ch = 0 ∨ ch = 1 ∨ ch = 2 ∨ ch = 3 ∨ ch = 4 ∨ ch = 5 ∨ ch = 6 ∨ ch = 7 ∨ ch = 8 := by omega
  rcases this with rfl | rfl | rfl | rfl | rfl | rfl | rfl | rfl | rfl <;> go_simp <;> rfl
theorem pow_small (ch : Int) (h0 : 0 ≤ ch) (h8 : ch ≤ 8) : (1 : Int) ≤ 2 ^ ch.toNat ∧ (2 : Int) ^ ch.toNat ≤ 256 := by
  have : ch = 0 ∨ ch = 1 ∨ ch = 2 ∨ ch = 3 ∨ ch = 4 ∨ ch = 5 ∨ ch = 6 ∨ ch = 7 ∨ ch = 8 := by omega
  rcases this with rfl | rfl | rfl | rfl | rfl | rfl | rfl | rfl | rfl <;> decide

set_option maxRecDepth 20000 in
set_option maxHeartbeats 6400000 in
theorem splain_many (a : Snd) (h : FairS a) (h1 : 2 < a.ch) (w : World) :
    Calls Tryz.prog 43 #[sndV a] w fun e w' => e = .returned (.string (plainT a)) ∧ Below w.heap.size w w' := by
  have HT : Hid (plainT a = bodyT a 40 (leT (2 ^ a.ch.toNat - 1) 4)) := if_neg (by omega)
  have HJ0 : Hid (Ja w a (w.alloc (.cells (sndC a) 73))) := Ja.new w a
  have hsh := fun w => shl_run a.ch h.c0 h.c1 w
  have hps := pow_small a.ch h.c0 h.c1
  have KLE : Hid (∀ n wx, (-9223372036854775808 ≤ n ∧ n ≤ 9223372036854775807) → Hid (Ja w a wx) → Calls Tryz.prog 79 #[.int .i64 n, .int .i64 4] wx fun e w' => e = .returned (.string (leT n 4)) ∧ Hid (Ja w a w')) := fun n wx hn hx =>
    (rle_spec n 4 hn.1 hn.2 wx).mono fun e w' h => ⟨h.1, hx.out.next h.2⟩
  have KBO : Hid (∀ wx, Hid (Ja w a wx) → Calls Tryz.prog 78 #[.agg #[.int .i64 a.rate, .int .i64 a.ch, .int .i64 a.wd], .int .i64 40, .string (leT (2 ^ a.ch.toNat - 1) 4)] wx fun e w' => e = .returned (.string (plainT a)) ∧ Hid (Ja w a w')) := fun wx hx =>
    (body_40 a h _ (by have := leT_size (2 ^ a.ch.toNat - 1) 4; omega) wx).mono fun e w' q => ⟨by rw [HT.out]; exact q.1, hx.out.next q.2⟩
  have HS : Hid (∀ wx, Hid (Ja w a wx) → wx.cell? ⟨w.heap.size, 0, none⟩ = some (.int .i64 a.rate) ∧ wx.cell? ⟨w.heap.size, 1, none⟩ = some (.int .i64 a.ch) ∧ wx.cell? ⟨w.heap.size, 2, none⟩ = some (.int .i64 a.wd)) := fun wx hx => ⟨hx.out.s 0 _ rfl, hx.out.s 1 _ rfl, hx.out.s 2 _ rfl⟩
  generalize plainT a = PT at *
  generalize (2 : Int) ^ a.ch.toNat = P2 at *
  have hwp : IntKind.i64.wrap (P2 - 1) = P2 - 1 := by rw [IntKind.wrap_i64]; omega
  have h1b : decide (a.ch ≤ 2) = false := decide_eq_false (by omega)
  clear h
  go_enter Tryz.func43, Tryz.ntmps43
  go_wp2_with fail
  generalize hwa : World.alloc w _ = wa
  have HA : Hid (Ja w a wa) := by
    rw [← hwa]
    exact HJ0.out
  have HD : Hid (Ja w a wa.drew) := HA.out.next ⟨rfl, rfl, rfl, Nat.le_refl _, fun _ _ => rfl⟩
  clear hwa HJ0 HA
  go_region_held3 (fun wx => wx.cell? ⟨w.heap.size, 0, none⟩ = some (.int .i64 a.rate) ∧ wx.cell? ⟨w.heap.size, 1, none⟩ = some (.int .i64 a.ch) ∧ wx.cell? ⟨w.heap.size, 2, none⟩ = some (.int .i64 a.wd)) (exact HS.out _ (by assumption))
    (first
      | (go_at_call 79; refine (KLE.out _ _ ⟨by omega, by omega⟩ (by assumption)).mono ?_; rintro e w4 ⟨rfl, h4⟩)
      | (go_at_call 78; refine (KBO.out _ (by assumption)).mono ?_; rintro e w5 ⟨rfl, h5⟩))
  have H5 : Hid (Ja w a w5) := h5
  go_wp2_with fail
  go_ret
  exact ⟨rfl, H5.out.below⟩

set_option maxRecDepth 20000 in
set_option maxHeartbeats 6400000 in
theorem splain_wide (a : Snd) (h : FairS a) (h1 : a.ch ≤ 2) (h2 : 16 < a.wd) (w : World) :
    Calls Tryz.prog 43 #[sndV a] w fun e w' => e = .returned (.string (plainT a)) ∧ Below w.heap.size w w' := by
  have HT : Hid (plainT a = bodyT a 40 (leT (2 ^ a.ch.toNat - 1) 4)) := if_neg (by omega)
  have HJ0 : Hid (Ja w a (w.alloc (.cells (sndC a) 73))) := Ja.new w a
  have hsh := fun w => shl_run a.ch h.c0 h.c1 w
  have hps := pow_small a.ch h.c0 h.c1
  have KLE : Hid (∀ n wx, (-9223372036854775808 ≤ n ∧ n ≤ 9223372036854775807) → Hid (Ja w a wx) → Calls Tryz.prog 79 #[.int .i64 n, .int .i64 4] wx fun e w' => e = .returned (.string (leT n 4)) ∧ Hid (Ja w a w')) := fun n wx hn hx =>
    (rle_spec n 4 hn.1 hn.2 wx).mono fun e w' h => ⟨h.1, hx.out.next h.2⟩
  have KBO : Hid (∀ wx, Hid (Ja w a wx) → Calls Tryz.prog 78 #[.agg #[.int .i64 a.rate, .int .i64 a.ch, .int .i64 a.wd], .int .i64 40, .string (leT (2 ^ a.ch.toNat - 1) 4)] wx fun e w' => e = .returned (.string (plainT a)) ∧ Hid (Ja w a w')) := fun wx hx =>
    (body_40 a h _ (by have := leT_size (2 ^ a.ch.toNat - 1) 4; omega) wx).mono fun e w' q => ⟨by rw [HT.out]; exact q.1, hx.out.next q.2⟩
  have HS : Hid (∀ wx, Hid (Ja w a wx) → wx.cell? ⟨w.heap.size, 0, none⟩ = some (.int .i64 a.rate) ∧ wx.cell? ⟨w.heap.size, 1, none⟩ = some (.int .i64 a.ch) ∧ wx.cell? ⟨w.heap.size, 2, none⟩ = some (.int .i64 a.wd)) := fun wx hx => ⟨hx.out.s 0 _ rfl, hx.out.s 1 _ rfl, hx.out.s 2 _ rfl⟩
  generalize plainT a = PT at *
  generalize (2 : Int) ^ a.ch.toNat = P2 at *
  have hwp : IntKind.i64.wrap (P2 - 1) = P2 - 1 := by rw [IntKind.wrap_i64]; omega
  have h1b : decide (a.ch ≤ 2) = true := decide_eq_true h1
  have h2b : decide (a.wd ≤ 16) = false := decide_eq_false (by omega)
  clear h
  go_enter Tryz.func43, Tryz.ntmps43
  go_wp2_with fail
  generalize hwa : World.alloc w _ = wa
  have HA : Hid (Ja w a wa) := by
    rw [← hwa]
    exact HJ0.out
  have HD : Hid (Ja w a wa.drew) := HA.out.next ⟨rfl, rfl, rfl, Nat.le_refl _, fun _ _ => rfl⟩
  clear hwa HJ0 HA
  go_region_held3 (fun wx => wx.cell? ⟨w.heap.size, 0, none⟩ = some (.int .i64 a.rate) ∧ wx.cell? ⟨w.heap.size, 1, none⟩ = some (.int .i64 a.ch) ∧ wx.cell? ⟨w.heap.size, 2, none⟩ = some (.int .i64 a.wd)) (exact HS.out _ (by assumption))
    (first
      | (go_at_call 79; refine (KLE.out _ _ ⟨by omega, by omega⟩ (by assumption)).mono ?_; rintro e w4 ⟨rfl, h4⟩)
      | (go_at_call 78; refine (KBO.out _ (by assumption)).mono ?_; rintro e w5 ⟨rfl, h5⟩))
  have H5 : Hid (Ja w a w5) := h5
  go_wp2_with fail
  go_ret
  exact ⟨rfl, H5.out.below⟩

theorem splain_spec (a : Snd) (h : FairS a) (w : World) :
    Calls Tryz.prog 43 #[sndV a] w fun e w' => e = .returned (.string (plainT a)) ∧ Below w.heap.size w w' := by
  by_cases h1 : a.ch ≤ 2
  · by_cases h2 : a.wd ≤ 16
    · exact splain_short a h h1 h2 w
    · exact splain_wide a h h1 (by omega) w
  · exact splain_many a h (by omega) w

end Go.Proofs.YtfnkdahocehilaaGreat
