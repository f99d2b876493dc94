/- Own text: the walk of awake. -/
import Derived.Test.YtdlakbgcflekkaaQ8all
namespace Go.Proofs.Ytdlakbgcflekkaa
open Go.RowKit
set_option linter.unusedSimpArgs false
set_option linter.unusedVariables false

def l0 : List Int := [0, -1, 1, 2]
def c0 : Rc := ⟨0, 0, [0], [-1]⟩
theorem cut420 : Cut 4 2 0 := ⟨by decide, by decide, by decide, by decide, by decide, by decide⟩
theorem rok0 : Rok c0 4 0 0 := ⟨⟨by decide, by decide, by decide, by decide, by decide, by decide⟩, rfl, by decide, by decide, rfl, rfl, by
  intro i hi
  have : i = 0 := by simpa using hi
  subst this
  unfold mayOk c0
  decide⟩
set_option maxRecDepth 20000 in
theorem best0 : bestK (ordS l0 4 0) 2 = 0 := by decide
set_option maxRecDepth 20000 in
theorem ord0 : ordS l0 4 0 0 = 21 := by decide
theorem rc0 : bestRc l0 4 0 0 = c0 := by
  have h1 : chP (ordF l0 4 0 0) (2 ^ 0) = [0] := by decide
  unfold bestRc c0
  rw [h1]
  rfl
set_option maxRecDepth 20000 in
theorem fit0 : fitB c0 4 0 0 l0 = true := by decide
set_option maxRecDepth 20000 in
theorem enc0 : (encB c0 4 0 l0).length = 21 := by decide
theorem back0 : decP (textOf (pack (encB c0 4 0 l0))) 0 4 0 = some (c0, l0, 21) := by
  have h := enc_back c0 4 0 0 rok0 l0 rfl ((fitB_iff c0 4 0 0 l0).1 fit0).2
  rw [enc0] at h
  exact h
theorem sh0 : ShX l0 := (shB_iff l0).1 (by decide)
theorem size0 : (textOf (pack (encB c0 4 0 l0))).size ≤ 1000 := by rw [textOf_size, pack_length, enc0]; decide
theorem IntsBlk.row {w : World} {g : Nat} {L : List Int} (h : IntsBlk w g L) (hl : L.length ≤ 5000) (hn : ∀ n ∈ L, -9223372036854775808 ≤ n ∧ n ≤ 9223372036854775807) : IntsAt w (some ⟨g, 0, none⟩) L := h.ints (by omega) hn
theorem num0 : (∀ n ∈ c0.P, -9223372036854775808 ≤ n ∧ n ≤ 9223372036854775807) ∧ (∀ n ∈ c0.E, -9223372036854775808 ≤ n ∧ n ≤ 9223372036854775807) ∧ (∀ n ∈ l0, -9223372036854775808 ≤ n ∧ n ≤ 9223372036854775807) := by
  refine ⟨?_, ?_, ?_⟩ <;> decide
theorem rcat0 {w : World} {gp ge : Nat} (hp : IntsBlk w gp c0.P) (he : IntsBlk w ge c0.E) : RcAt w c0 (some ⟨gp, 0, none⟩) (some ⟨ge, 0, none⟩) :=
  ⟨hp.row (by decide) num0.1, he.row (by decide) num0.2.1, by decide, by decide, by decide, by decide⟩
set_option maxRecDepth 20000 in
set_option maxHeartbeats 3200000 in
theorem awake_spec (w : World) : Calls Try.prog 9 #[] w fun e w' => e = .returned (.bool true) ∧ Below w.heap.size w w' := by
  have HL : Hid (IntsBlk (w.alloc (.cells #[.int .i64 0, .int .i64 (-1), .int .i64 1, .int .i64 2] 3)) w.heap.size l0) := heap_alloc_new _ _
  have HB0 : Hid (Below w.heap.size w (w.alloc (.cells #[.int .i64 0, .int .i64 (-1), .int .i64 1, .int .i64 2] 3))) := (Below.refl _ _).alloc (Nat.le_refl _) _
  have KB : Hid (∀ wx g, IntsBlk wx g l0 → Calls Try.prog 26 #[.int .i64 4, .int .i64 0, .slice (some ⟨g, 0, none⟩) 4 4] wx fun en w' => ∃ gp ge, en = .returned (.tuple #[.agg #[.int .i64 0, .int .i64 0, .slice (some ⟨gp, 0, none⟩) 1 1, .slice (some ⟨ge, 0, none⟩) 1 1], .int .i64 21]) ∧ IntsBlk w' gp c0.P ∧ IntsBlk w' ge c0.E ∧ wx.heap.size ≤ gp ∧ wx.heap.size ≤ ge ∧ Below wx.heap.size wx w') := fun wx g hg => by
    have hh := best_main 4 2 0 cut420 (by decide) (fun o' h1 h2 => by
      rcases (show o' = 3 ∨ o' = 4 by omega) with rfl | rfl <;> decide) l0 sh0 (some ⟨g, 0, none⟩) 4 (by decide) (fun e => by cases e) wx (hg.row (by decide) num0.2.2) rfl
    rw [best0, ord0, rc0] at hh
    exact hh
  have KE : Hid (∀ wx gp ge gl p ao, IntsBlk wx gp c0.P → IntsBlk wx ge c0.E → IntsBlk wx gl l0 → WrB wx p ao [] → Apart p ao (some ⟨gp, 0, none⟩) c0.P → Apart p ao (some ⟨ge, 0, none⟩) c0.E → Apart p ao (some ⟨gl, 0, none⟩) l0 → Calls Try.prog 13 #[.pointer (some ⟨p, 0, none⟩), .agg #[.int .i64 0, .int .i64 0, .slice (some ⟨gp, 0, none⟩) 1 1, .slice (some ⟨ge, 0, none⟩) 1 1], .int .i64 4, .int .i64 0, .slice (some ⟨gl, 0, none⟩) 4 4] wx fun en w' => en = .returned (.int .i64 0) ∧ ∃ ao', WrB w' p ao' (encB c0 4 0 l0) ∧ Stays (foot p ao) wx w' ∧ Moved wx.heap.size ao ao') := fun wx gp ge gl p ao h1 h2 h3 h4 h5 h6 h7 => encode_ok c0 l0 sh0 (some ⟨gp, 0, none⟩) 1 (some ⟨ge, 0, none⟩) 1 (some ⟨gl, 0, none⟩) 4 (by decide) (fun e => by cases e) p ao [] Bits01.nil (by decide) wx (rcat0 h1 h2) (h3.row (by decide) num0.2.2) h4 h5 h6 h7 4 0 0 rok0 fit0
  generalize hBB : encB c0 4 0 l0 = BB at *
  have h01 : Bits01 BB := by rw [← hBB]; exact encB_01 _ _ _ _
  have hlen : BB.length = 21 := by rw [← hBB]; exact enc0
  have KD : Hid (∀ wx q, Rd wx q (textOf (pack BB)) 0 → Calls Try.prog 21 #[.pointer (some ⟨q, 0, none⟩), .int .i64 4, .int .i64 0] wx fun en w' => ∃ gl gp ge, en = .returned (.tuple #[.slice (some ⟨gl, 0, none⟩) 4 4, .agg #[.int .i64 0, .int .i64 0, .slice (some ⟨gp, 0, none⟩) 1 1, .slice (some ⟨ge, 0, none⟩) 1 1], .int .i64 0]) ∧ IntsBlk w' gl l0 ∧ IntsBlk w' gp c0.P ∧ IntsBlk w' ge c0.E ∧ wx.heap.size ≤ gl ∧ wx.heap.size ≤ gp ∧ wx.heap.size ≤ ge ∧ Rd w' q (textOf (pack BB)) 21 ∧ Stays (only q) wx w') := fun wx q hq => by
    have hsz : (textOf (pack BB)).size ≤ 1000 := by rw [← hBB]; exact size0
    refine (decode_all q (textOf (pack BB)) (by omega) 0 (by omega) 4 0 ⟨by decide, by decide, by decide, by decide, by decide⟩ wx hq).mono fun e w' hh => ?_
    have hb : decP (textOf (pack BB)) 0 4 0 = some (c0, l0, 21) := by rw [← hBB]; exact back0
    rw [hb] at hh
    obtain ⟨gl, gp, ge, h1, h2, h3, h4, h5, h6, h7, h8, h9, h10⟩ := hh
    exact ⟨gl, gp, ge, h1, h2, h3, h4, h5, h6, h7, h8, h10⟩
  clear hBB
  go_enter Try.func9, Try.ntmps9
  go_wp2_with fail
  generalize hwa : w.alloc _ = wa at *
  clear hwa
  refine (KB.out wa _ HL.out).mono ?_
  rintro e w2 ⟨gp, ge, rfl, hP, hE, hgp, hge, hb2⟩
  have HB3 : Hid (Below wa.heap.size wa (w2.alloc (.cells #[.int .i64 0, .int .i64 0, .slice (some ⟨gp, 0, none⟩) 1 1, .slice (some ⟨ge, 0, none⟩) 1 1] 24))) := hb2.trans ((Below.refl _ _).alloc hb2.size _)
  have HA3 : Hid (Below w2.heap.size w2 (w2.alloc (.cells #[.int .i64 0, .int .i64 0, .slice (some ⟨gp, 0, none⟩) 1 1, .slice (some ⟨ge, 0, none⟩) 1 1] 24))) := (Below.refl _ _).alloc (Nat.le_refl _) _
  have HP3 : Hid (IntsBlk (w2.alloc (.cells #[.int .i64 0, .int .i64 0, .slice (some ⟨gp, 0, none⟩) 1 1, .slice (some ⟨ge, 0, none⟩) 1 1] 24)) gp c0.P) := hP.below HA3.out
  have HE3 : Hid (IntsBlk (w2.alloc (.cells #[.int .i64 0, .int .i64 0, .slice (some ⟨gp, 0, none⟩) 1 1, .slice (some ⟨ge, 0, none⟩) 1 1] 24)) ge c0.E) := hE.below HA3.out
  have HK3 : Hid ((w2.alloc (.cells #[.int .i64 0, .int .i64 0, .slice (some ⟨gp, 0, none⟩) 1 1, .slice (some ⟨ge, 0, none⟩) 1 1] 24)).heap[w2.heap.size]? = some (.cells #[.int .i64 0, .int .i64 0, .slice (some ⟨gp, 0, none⟩) 1 1, .slice (some ⟨ge, 0, none⟩) 1 1] 24 (0, 0))) := heap_alloc_new _ _
  have hgp2 := hP.lt
  have hge2 := hE.lt
  have hwl := HL.out.lt
  have hsz2 := hb2.size
  clear hP hE hb2
  go_wp2_with fail
  generalize hw3 : w2.alloc _ = w3 at *
  generalize hkk : w2.heap.size = k at *
  clear hw3
  have hk3 := lt_of_block HK3.out
  have kn := new_spec w3
  refine kn.mono ?_
  rintro e w4 ⟨rfl, hw4, hq4⟩
  have hb4 : Below w3.heap.size w3 w4 := by rw [hq4]; exact (Below.refl _ _).alloc (Nat.le_refl _) _
  have HW4 : Hid (WrB w4 w3.heap.size none []) := hw4
  have HP4 : Hid (IntsBlk w4 gp c0.P) := HP3.out.below hb4
  have HE4 : Hid (IntsBlk w4 ge c0.E) := HE3.out.below hb4
  have HK4 : Hid (w4.heap[k]? = some (.cells #[.int .i64 0, .int .i64 0, .slice (some ⟨gp, 0, none⟩) 1 1, .slice (some ⟨ge, 0, none⟩) 1 1] 24 (0, 0))) := by show _ = _; rw [hb4.block _ hk3]; exact HK3.out
  have HL4 : Hid (IntsBlk w4 w.heap.size l0) := (HL.out.below HB3.out).below hb4
  have HB4 : Hid (Below w.heap.size w w4) := (HB0.out.trans (HB3.out.mono (Nat.le_of_lt hwl))).trans (hb4.mono (by have := HB3.out.size; omega))
  clear kn hw4 hq4 HP3 HE3 HK3 HL HB0 HB3 HA3
  generalize hp3 : w3.heap.size = p at *
  have hap : ∀ (g : Nat) (L : List Int), g < p → Apart p none (some ⟨g, 0, none⟩) L := fun g L hg _ b hb hf => by
    have e : g = b := by simpa [blockOf] using hb
    rcases hf with hf | hf
    · omega
    · cases hf
  have ke := KE.out w4 gp ge w.heap.size p none HP4.out HE4.out HL4.out HW4.out (hap _ _ (by omega)) (hap _ _ (by omega)) (hap _ _ (by omega))
  have y0 : w4.cell? ⟨k, 0, none⟩ = some (.int .i64 0) := by rw [cell_of_row _ _ _ _ _ _ HK4.out]; rfl
  have y1 : w4.cell? ⟨k, 1, none⟩ = some (.int .i64 0) := by rw [cell_of_row _ _ _ _ _ _ HK4.out]; rfl
  have y2 : w4.cell? ⟨k, 2, none⟩ = some (.slice (some ⟨gp, 0, none⟩) 1 1) := by rw [cell_of_row _ _ _ _ _ _ HK4.out]; rfl
  have y3 : w4.cell? ⟨k, 3, none⟩ = some (.slice (some ⟨ge, 0, none⟩) 1 1) := by rw [cell_of_row _ _ _ _ _ _ HK4.out]; rfl
  clear hap
  go_wp2_with fail
  refine ke.mono ?_
  rintro e w5 ⟨rfl, ao5, hw5, hs5, hm5⟩
  have hfo : ∀ x, x < p → ¬ foot p none x := fun x hx hf => by
    rcases hf with hf | hf
    · omega
    · cases hf
  have HW5 : Hid (WrB w5 p ao5 BB) := hw5
  have HP5 : Hid (IntsBlk w5 gp c0.P) := HP4.out.stays hs5 (hfo _ (by omega))
  have HE5 : Hid (IntsBlk w5 ge c0.E) := HE4.out.stays hs5 (hfo _ (by omega))
  have HL5 : Hid (IntsBlk w5 w.heap.size l0) := HL4.out.stays hs5 (hfo _ (by omega))
  have HK5 : Hid (w5.heap[k]? = some (.cells #[.int .i64 0, .int .i64 0, .slice (some ⟨gp, 0, none⟩) 1 1, .slice (some ⟨ge, 0, none⟩) 1 1] 24 (0, 0))) := by show _ = _; rw [hs5.block _ (lt_of_block HK4.out) (hfo _ (by omega))]; exact HK4.out
  have HB5 : Hid (Below w.heap.size w w5) := HB4.out.trans (foot_below hs5 HB4.out.size (by omega) (fun b hb => by cases hb))
  have hp5 := hw5.lt
  have hao5 := hw5.blocks
  clear ke hw5 hs5 hm5 y0 y1 y2 y3 HP4 HE4 HL4 HK4 HB4 HW4 hfo
  have kb := bytes_spec p w5 ao5 BB h01 (by omega) HW5.out
  have hsz : (textOf (pack BB)).size ≤ 1000000000000000000 := by rw [textOf_size, pack_length, hlen]; decide
  have ko := of_spec (textOf (pack BB)) hsz w5
  go_wp2_with fail
  refine kb.mono ?_
  rintro e w5' ⟨rfl, rfl⟩
  go_wp2_with fail
  refine ko.mono ?_
  rintro e w6 ⟨rfl, hrd6, hb6⟩
  have HW6 : Hid (WrB w6 p ao5 BB) := HW5.out.below hb6
  have HP6 : Hid (IntsBlk w6 gp c0.P) := HP5.out.below hb6
  have HE6 : Hid (IntsBlk w6 ge c0.E) := HE5.out.below hb6
  have HL6 : Hid (IntsBlk w6 w.heap.size l0) := HL5.out.below hb6
  have HK6 : Hid (w6.heap[k]? = some (.cells #[.int .i64 0, .int .i64 0, .slice (some ⟨gp, 0, none⟩) 1 1, .slice (some ⟨ge, 0, none⟩) 1 1] 24 (0, 0))) := by show _ = _; rw [hb6.block _ (lt_of_block HK5.out)]; exact HK5.out
  have HB6 : Hid (Below w.heap.size w w6) := HB5.out.trans (hb6.mono HB5.out.size)
  have HR6 : Hid (Rd w6 w5'.heap.size (textOf (pack BB)) 0) := hrd6
  have hz5 := HB5.out.size
  clear kb ko hrd6 hb6 HW5 HP5 HE5 HL5 HK5 HB5
  generalize hq5 : w5'.heap.size = q at *
  have kd := KD.out w6 q HR6.out
  go_wp2_with fail
  refine kd.mono ?_
  rintro e w7 ⟨gl', gp', ge', rfl, hl7, hp7, he7, g1, g2, g3, hr7, hs7⟩
  have hno : ∀ x, x < q → ¬ only q x := fun x hx e => by unfold only at e; omega
  have HA8 : Hid (Below w7.heap.size w7 (w7.alloc (.cells #[.int .i64 0, .int .i64 0, .slice (some ⟨gp', 0, none⟩) 1 1, .slice (some ⟨ge', 0, none⟩) 1 1] 24))) := (Below.refl _ _).alloc (Nat.le_refl _) _
  have HW8 : Hid (WrB (w7.alloc (.cells #[.int .i64 0, .int .i64 0, .slice (some ⟨gp', 0, none⟩) 1 1, .slice (some ⟨ge', 0, none⟩) 1 1] 24)) p ao5 BB) := (HW6.out.stays hs7 (hno _ (by omega)) (fun b hb => hno _ (by have := hao5 b hb; omega))).below HA8.out
  have HP8 : Hid (IntsBlk (w7.alloc (.cells #[.int .i64 0, .int .i64 0, .slice (some ⟨gp', 0, none⟩) 1 1, .slice (some ⟨ge', 0, none⟩) 1 1] 24)) gp c0.P) := (HP6.out.stays hs7 (hno _ (by omega))).below HA8.out
  have HE8 : Hid (IntsBlk (w7.alloc (.cells #[.int .i64 0, .int .i64 0, .slice (some ⟨gp', 0, none⟩) 1 1, .slice (some ⟨ge', 0, none⟩) 1 1] 24)) ge c0.E) := (HE6.out.stays hs7 (hno _ (by omega))).below HA8.out
  have HL8 : Hid (IntsBlk (w7.alloc (.cells #[.int .i64 0, .int .i64 0, .slice (some ⟨gp', 0, none⟩) 1 1, .slice (some ⟨ge', 0, none⟩) 1 1] 24)) w.heap.size l0) := (HL6.out.stays hs7 (hno _ (by omega))).below HA8.out
  have HK8 : Hid ((w7.alloc (.cells #[.int .i64 0, .int .i64 0, .slice (some ⟨gp', 0, none⟩) 1 1, .slice (some ⟨ge', 0, none⟩) 1 1] 24)).heap[k]? = some (.cells #[.int .i64 0, .int .i64 0, .slice (some ⟨gp, 0, none⟩) 1 1, .slice (some ⟨ge, 0, none⟩) 1 1] 24 (0, 0))) := by
    show _ = _
    have h7 : w7.heap[k]? = some (.cells #[.int .i64 0, .int .i64 0, .slice (some ⟨gp, 0, none⟩) 1 1, .slice (some ⟨ge, 0, none⟩) 1 1] 24 (0, 0)) := by rw [hs7.block _ (lt_of_block HK6.out) (hno _ (by omega))]; exact HK6.out
    rw [HA8.out.block _ (lt_of_block h7)]; exact h7
  have HJ8 : Hid ((w7.alloc (.cells #[.int .i64 0, .int .i64 0, .slice (some ⟨gp', 0, none⟩) 1 1, .slice (some ⟨ge', 0, none⟩) 1 1] 24)).heap[w7.heap.size]? = some (.cells #[.int .i64 0, .int .i64 0, .slice (some ⟨gp', 0, none⟩) 1 1, .slice (some ⟨ge', 0, none⟩) 1 1] 24 (0, 0))) := heap_alloc_new _ _
  have HB8 : Hid (Below w.heap.size w (w7.alloc (.cells #[.int .i64 0, .int .i64 0, .slice (some ⟨gp', 0, none⟩) 1 1, .slice (some ⟨ge', 0, none⟩) 1 1] 24))) := (HB6.out.trans (only_below hs7 HB6.out.size (by omega))).trans (HA8.out.mono (by have := hs7.size; have := HB6.out.size; omega))
  have HR8 : Hid (Rd (w7.alloc (.cells #[.int .i64 0, .int .i64 0, .slice (some ⟨gp', 0, none⟩) 1 1, .slice (some ⟨ge', 0, none⟩) 1 1] 24)) q (textOf (pack BB)) 21) := hr7.below HA8.out
  have HM8 : Hid (IntsBlk (w7.alloc (.cells #[.int .i64 0, .int .i64 0, .slice (some ⟨gp', 0, none⟩) 1 1, .slice (some ⟨ge', 0, none⟩) 1 1] 24)) gl' l0) := hl7.below HA8.out
  have HQ8 : Hid (IntsBlk (w7.alloc (.cells #[.int .i64 0, .int .i64 0, .slice (some ⟨gp', 0, none⟩) 1 1, .slice (some ⟨ge', 0, none⟩) 1 1] 24)) gp' c0.P) := hp7.below HA8.out
  have HF8 : Hid (IntsBlk (w7.alloc (.cells #[.int .i64 0, .int .i64 0, .slice (some ⟨gp', 0, none⟩) 1 1, .slice (some ⟨ge', 0, none⟩) 1 1] 24)) ge' c0.E) := he7.below HA8.out
  clear kd hl7 hp7 he7 hr7 hs7 HW6 HP6 HE6 HL6 HK6 HB6 HR6 HA8
  have y0 : (w7.alloc (.cells #[.int .i64 0, .int .i64 0, .slice (some ⟨gp', 0, none⟩) 1 1, .slice (some ⟨ge', 0, none⟩) 1 1] 24)).cell? ⟨k, 0, none⟩ = some (.int .i64 0) := by rw [cell_of_row _ _ _ _ _ _ HK8.out]; rfl
  have y1 : (w7.alloc (.cells #[.int .i64 0, .int .i64 0, .slice (some ⟨gp', 0, none⟩) 1 1, .slice (some ⟨ge', 0, none⟩) 1 1] 24)).cell? ⟨k, 1, none⟩ = some (.int .i64 0) := by rw [cell_of_row _ _ _ _ _ _ HK8.out]; rfl
  have y2 : (w7.alloc (.cells #[.int .i64 0, .int .i64 0, .slice (some ⟨gp', 0, none⟩) 1 1, .slice (some ⟨ge', 0, none⟩) 1 1] 24)).cell? ⟨k, 2, none⟩ = some (.slice (some ⟨gp, 0, none⟩) 1 1) := by rw [cell_of_row _ _ _ _ _ _ HK8.out]; rfl
  have y3 : (w7.alloc (.cells #[.int .i64 0, .int .i64 0, .slice (some ⟨gp', 0, none⟩) 1 1, .slice (some ⟨ge', 0, none⟩) 1 1] 24)).cell? ⟨k, 3, none⟩ = some (.slice (some ⟨ge, 0, none⟩) 1 1) := by rw [cell_of_row _ _ _ _ _ _ HK8.out]; rfl
  have yp : (w7.alloc (.cells #[.int .i64 0, .int .i64 0, .slice (some ⟨gp', 0, none⟩) 1 1, .slice (some ⟨ge', 0, none⟩) 1 1] 24)).cell? ⟨gp, 0, none⟩ = some (.int .i64 0) := HP8.out.cell 0 (by decide)
  go_wp2_with fail
  clear y0 y1 y2 y3 yp
  generalize hw8 : w7.alloc _ = w8 at *
  generalize hj8 : w7.heap.size = k8 at *
  clear hw8 hj8
  have KL : Hid (∀ wx, Below w8.heap.size w8 wx → Calls Try.prog 15 #[.pointer (some ⟨p, 0, none⟩)] wx fun e w' => e = .returned (.int .i64 21) ∧ w' = wx) := fun wx hb => (len_spec p wx ao5 BB (HW8.out.below hb)).mono fun e w' hh => ⟨by rw [hh.1, hlen]; rfl, hh.2⟩
  have KI : Hid (∀ wx, Below w8.heap.size w8 wx → Calls Try.prog 23 #[.slice (some ⟨gl', 0, none⟩) 4 4, .slice (some ⟨w.heap.size, 0, none⟩) 4 4] wx fun e w' => e = .returned (.bool true) ∧ Below wx.heap.size wx w') := fun wx hb => (ints_same l0 (some ⟨gl', 0, none⟩) (some ⟨w.heap.size, 0, none⟩) 4 4 wx ((HM8.out.below hb).row (by decide) num0.2.2) ((HL8.out.below hb).row (by decide) num0.2.2)).mono fun e w' hh => by
    obtain ⟨h1, n, rfl⟩ := hh
    exact ⟨h1, below_drewN _ _⟩
  have KS : Hid (∀ wx, Below w8.heap.size w8 wx → Calls Try.prog 24 #[.agg #[.int .i64 0, .int .i64 0, .slice (some ⟨gp, 0, none⟩) 1 1, .slice (some ⟨ge, 0, none⟩) 1 1], .agg #[.int .i64 0, .int .i64 0, .slice (some ⟨gp', 0, none⟩) 1 1, .slice (some ⟨ge', 0, none⟩) 1 1]] wx fun e w' => e = .returned (.bool true) ∧ Below wx.heap.size wx w') := fun wx hb => same_same c0 (some ⟨gp, 0, none⟩) 1 (some ⟨ge, 0, none⟩) 1 (some ⟨gp', 0, none⟩) 1 (some ⟨ge', 0, none⟩) 1 wx (rcat0 (HP8.out.below hb) (HE8.out.below hb)) (rcat0 (HQ8.out.below hb) (HF8.out.below hb))
  have KA : Hid (∀ wx, Below w8.heap.size w8 wx → Calls Try.prog 25 #[.pointer (some ⟨q, 0, none⟩)] wx fun e w' => e = .returned (.int .i64 21) ∧ w' = wx) := fun wx hb => at_spec q (textOf (pack BB)) 21 wx (HR8.out.below hb)
  have KC : Hid (∀ (kk : Int) v, costI l0 kk = v → ∀ wx, Below w8.heap.size w8 wx → Calls Try.prog 28 #[.slice (some ⟨w.heap.size, 0, none⟩) 4 4, .int .i64 kk] wx fun e w' => e = .returned (.int .i64 v) ∧ Below wx.heap.size wx w') := fun kk v hv wx hb => (cost_spec l0 kk (some ⟨w.heap.size, 0, none⟩) 4 sh0 wx ((HL8.out.below hb).row (by decide) num0.2.2)).mono fun e w' hh => by
    obtain ⟨h1, n, rfl⟩ := hh
    exact ⟨by rw [h1, hv], below_drewN _ _⟩
  have hbr := Below.refl w8.heap.size w8
  refine (KL.out w8 hbr).mono ?_
  rintro e w8' ⟨rfl, rfl⟩
  go_wp2_with fail
  refine (KI.out w8' hbr).mono ?_
  rintro e w9 ⟨rfl, hb9⟩
  have HB9 : Hid (Below w8'.heap.size w8' w9) := hb9
  have hk9 : w9.heap[k]? = some (.cells #[.int .i64 0, .int .i64 0, .slice (some ⟨gp, 0, none⟩) 1 1, .slice (some ⟨ge, 0, none⟩) 1 1] 24 (0, 0)) := by rw [hb9.block _ (lt_of_block HK8.out)]; exact HK8.out
  have hj9 : w9.heap[k8]? = some (.cells #[.int .i64 0, .int .i64 0, .slice (some ⟨gp', 0, none⟩) 1 1, .slice (some ⟨ge', 0, none⟩) 1 1] 24 (0, 0)) := by rw [hb9.block _ (lt_of_block HJ8.out)]; exact HJ8.out
  clear hb9
  have y0 : w9.cell? ⟨k, 0, none⟩ = some (.int .i64 0) := by rw [cell_of_row _ _ _ _ _ _ hk9]; rfl
  have y1 : w9.cell? ⟨k, 1, none⟩ = some (.int .i64 0) := by rw [cell_of_row _ _ _ _ _ _ hk9]; rfl
  have y2 : w9.cell? ⟨k, 2, none⟩ = some (.slice (some ⟨gp, 0, none⟩) 1 1) := by rw [cell_of_row _ _ _ _ _ _ hk9]; rfl
  have y3 : w9.cell? ⟨k, 3, none⟩ = some (.slice (some ⟨ge, 0, none⟩) 1 1) := by rw [cell_of_row _ _ _ _ _ _ hk9]; rfl
  have z0 : w9.cell? ⟨k8, 0, none⟩ = some (.int .i64 0) := by rw [cell_of_row _ _ _ _ _ _ hj9]; rfl
  have z1 : w9.cell? ⟨k8, 1, none⟩ = some (.int .i64 0) := by rw [cell_of_row _ _ _ _ _ _ hj9]; rfl
  have z2 : w9.cell? ⟨k8, 2, none⟩ = some (.slice (some ⟨gp', 0, none⟩) 1 1) := by rw [cell_of_row _ _ _ _ _ _ hj9]; rfl
  have z3 : w9.cell? ⟨k8, 3, none⟩ = some (.slice (some ⟨ge', 0, none⟩) 1 1) := by rw [cell_of_row _ _ _ _ _ _ hj9]; rfl
  clear hk9 hj9
  go_wp2_with fail
  refine (KS.out w9 HB9.out).mono ?_
  rintro e w10 ⟨rfl, hb10⟩
  have HB10 : Hid (Below w8'.heap.size w8' w10) := HB9.out.trans (hb10.mono HB9.out.size)
  clear y0 y1 y2 y3 z0 z1 z2 z3 hb10
  go_wp2_with fail
  refine (KA.out w10 HB10.out).mono ?_
  rintro e w10' ⟨rfl, rfl⟩
  go_wp2_with fail
  refine (KC.out 1 11 (by decide) w10' HB10.out).mono ?_
  rintro e w11 ⟨rfl, hb11⟩
  have HB11 : Hid (Below w8'.heap.size w8' w11) := HB10.out.trans (hb11.mono HB10.out.size)
  clear hb11
  go_wp2_with fail
  refine (KC.out 31 (-1) (by decide) w11 HB11.out).mono ?_
  rintro e w12 ⟨rfl, hb12⟩
  have HB12 : Hid (Below w8'.heap.size w8' w12) := HB11.out.trans (hb12.mono HB11.out.size)
  clear hb12
  go_wp2_with fail
  go_ret
  exact ⟨rfl, HB8.out.trans (HB12.out.mono HB8.out.size)⟩

end Go.Proofs.Ytdlakbgcflekkaa
