/- Own text: the walk of the document's Decode. -/
import Derived.Test.YtdlakbgcflekkaaG3x
namespace Go.Proofs.Ytdlakbgcflekkaa
open Go.RowKit
set_option linter.unusedSimpArgs false
set_option linter.unusedVariables false
theorem rdTop_inv {s : ByteArray} {a : Nat} {b r m o : Int} {a1 : Nat} (h : rdTop s a b r = some (m, o, a1)) : getE s a 2 = 0 ∧ getV s a 2 = m ∧ m ≤ 1 ∧ 0 ≤ m ∧ getE s (getA s a 2) 4 = 0 ∧ getV s (getA s a 2) 4 = o ∧ getA s (getA s a 2) 4 = a1 := by
  unfold rdTop at h
  split at h
  · rename_i g1
    split at h
    · rename_i g2
      simp only [Option.some.injEq, Prod.mk.injEq] at h
      obtain ⟨e1, e2, e3⟩ := h
      have := getV_2 s a
      exact ⟨g1.1, e1, by omega, by omega, g2.1, e2, e3⟩
    · cases h
  · cases h
set_option maxRecDepth 20000 in
set_option maxHeartbeats 20000000 in
theorem xdec_main (x : Nat) (s : ByteArray) (hs : s.size ≤ 1000000000000000000) (a : Nat) (ha : a ≤ 8 * s.size) (b o r : Nat) (hC : Cut b o r) (m : Int) (a1 : Nat) (ht : rdTop s a b r = some (m, (o : Int), a1)) (hok : argOk b r) (w : World) (h : Rr w x s a) :
    Calls Try.prog 22 #[.pointer (some ⟨x, 0, none⟩), .int .i64 (b : Int), .int .i64 (r : Int)] w fun en w' => DPost (decP s a b r) (en = .returned (.tuple #[.slice none 0 0, zRice, .int .i64 2]) ∧ Stays (only x) w w') (fun c L a2 => ∃ la lc pa pc ea ec, en = .returned (.tuple #[.slice la L.length lc, riceV c pa pc ea ec, .int .i64 0]) ∧ IntsAt w' la L ∧ RcAt w' c pa ea ∧ Rr w' x s a2 ∧ Stays (only x) w w') := by
  obtain ⟨i3, h3a, h3b, h3c, h3d⟩ := int_info
  obtain ⟨hb1, hbb, hr1, hrr, hrbi⟩ := hok
  obtain ⟨t1, t2, t3, t4, t5, t6, t7⟩ := rdTop_inv ht
  have ha1 : a1 ≤ 8 * s.size := by rw [← t7]; exact getA_le _ _ _ (getA_le _ _ _ ha)
  have HDP0 : Hid (∀ n, n ≤ 2 ^ o → rdParts s m b o r n a1 = none → decP s a b r = none) := fun n hn hh => by
    unfold decP
    rw [ht]
    simp only [Int.toNat_natCast]
    rw [rdParts_none (2 ^ o) hh hn]
  have HDP1 : Hid (∀ dd, rdParts s m b o r (2 ^ o) a1 = some dd → decP s a b r = some (⟨m, o, dd.P, dd.E⟩, dd.L, dd.a)) := fun dd hh => by
    unfold decP
    rw [ht]
    simp only [Int.toNat_natCast]
    rw [hh]
  have hp := pow15 o hC.o15
  have ho15 := hC.o15
  have hb2 := hC.b2
  have hr2 := hC.r2
  have hrb2 := hC.rb
  have hsh : shapeB ⟨m, (o : Int), [], []⟩ b r = true := decide_eq_true ⟨⟨t4, t3⟩, hC.ok⟩
  have KS : Hid (∀ wx, Calls Try.prog 40 #[.agg #[.int .i64 m, .int .i64 (o : Int), .slice none 0 0, .slice none 0 0], .int .i64 (b : Int), .int .i64 (r : Int)] wx fun en w' => en = .returned (.bool true) ∧ Below wx.heap.size wx w') := fun wx => by rw [← hsh]; exact xshape_spec ⟨m, o, [], []⟩ b r none 0 none 0 wx
  have KP : Hid (∀ (i : Nat) (P E : List Int) pa pc ea ec wx, i < 2 ^ o → Calls Try.prog 36 #[.agg #[.int .i64 m, .int .i64 (o : Int), .slice pa P.length pc, .slice ea E.length ec], .int .i64 (b : Int), .int .i64 (r : Int), .int .i64 (i : Int)] wx fun en w' => en = .returned (.tuple #[.int .i64 (frN b o r i : Int), .int .i64 (frN b o r (i + 1) : Int)]) ∧ Below wx.heap.size wx w') := fun i P E pa pc ea ec wx hi => xpart_spec ⟨m, o, P, E⟩ b o r i hC rfl hi pa pc ea ec wx
  have KG : Hid (∀ (a' : Nat) (k : Int) wx, a' ≤ 8 * s.size → Rr wx x s a' → Calls Try.prog 46 #[.pointer (some ⟨x, 0, none⟩), .int .i64 k] wx fun e w' => e = .returned (.tuple #[.int .u64 (getV s a' k), .int .i64 (getE s a' k)]) ∧ Rr w' x s (getA s a' k) ∧ Stays (only x) wx w') := fun a' k wx h1 h2 => refget_all s hs a' h1 wx x k h2
  have kg1 := KG.out a 2
  have kg2 := KG.out (getA s a 2) 4
  rw [t1, t2] at kg1
  rw [t5, t6, t7] at kg2
  have ha2 := getA_le s a 2 ha
  generalize getA s a 2 = a0 at *
  have HMK : Hid (∀ wx : World, (Instr.makeSlice 22 (.int .i64 0) (.int .i64 ((b - r : Nat) : Int))).run Try.prog wx = .ok (.slice (some ⟨wx.heap.size, 0, none⟩) 0 (b - r)) (wx.alloc (.cells (madeCells #[.int .i64 0] (b - r)) 3))) := fun wx => by
    have hh := run_make (P := Try.prog) wx 22 3 i3 (.int .i64 0) undI3 h3a h3b .i64 .i64 0 ((b - r : Nat) : Int) (by omega) (by omega) (by rw [h3d]; omega) (by omega)
    rw [hh, h3c]
    simp [Value.cells]
  have hbr : (b : Int) - (r : Int) = ((b - r : Nat) : Int) := by omega
  have hpow : (2 : Int) ^ o = ((2 ^ o : Nat) : Int) := by simp
  have HFB : Hid (∀ i, i < 2 ^ o → frN b o r i ≤ frN b o r (i + 1) ∧ frN b o r (i + 1) ≤ b - r) := fun i hi => ⟨frN_mono b o r i, frN_bound hC (i + 1) hi⟩
  have HFT : Hid (∀ i, i ≤ 2 ^ o → frN b o r i ≤ b - r) := fun i hi => frN_bound hC i hi
  have hx := h.lt
  have HB0 : Hid (Below w.heap.size w (w.alloc (.cells #[.int .i64 0, .int .i64 0, .slice none 0 0, .slice none 0 0] 24))) := (Below.refl _ _).alloc (Nat.le_refl _) _
  have HX0 : Hid ((w.alloc (.cells #[.int .i64 0, .int .i64 0, .slice none 0 0, .slice none 0 0] 24)).heap[w.heap.size]? = some (.cells #[.int .i64 0, .int .i64 0, .slice none 0 0, .slice none 0 0] 24 (0, 0))) := heap_alloc_new _ _
  have HR0 : Hid (Rr (w.alloc (.cells #[.int .i64 0, .int .i64 0, .slice none 0 0, .slice none 0 0] 24)) x s a) := by show Rr _ _ _ _; unfold Rr; rw [HB0.out.block _ hx]; exact h
  have HM : Hid (0 ≤ m ∧ m ≤ 1) := ⟨t4, t3⟩
  clear h t1 t2 t5 t6 t7 ht hC hsh
  generalize hTT : b - r = TT at *
  have hT5 : TT ≤ 65535 := by omega
  clear hTT
  go_enter Try.func22, Try.ntmps22
  go_wp2_with fail
  generalize hwa : w.alloc _ = wa at *
  have hwz : w.heap.size < wa.heap.size := lt_of_block HX0.out
  clear hwa
  refine (kg1 wa ha HR0.out).mono ?_
  rintro e w2 ⟨rfl, h2, h2s⟩
  have HS2 : Hid (Stays (only x) w w2) := (Stays.of_below HB0.out _).trans h2s (fun _ _ h => h)
  have HX2 : Hid (w2.heap[w.heap.size]? = some (.cells #[.int .i64 0, .int .i64 0, .slice none 0 0, .slice none 0 0] 24 (0, 0))) := by show _ = _; rw [h2s.block _ hwz (fun e => by unfold only at e; omega)]; exact HX0.out
  have HR2 : Hid (Rr w2 x s a0) := h2
  clear h2 h2s HX0 HR0 HB0 hwz kg1
  go_wp2_with fail
  refine (kg2 w2 ha2 HR2.out).mono ?_
  rintro e w3 ⟨rfl, h3, h3s⟩
  have hz2 := lt_of_block HX2.out
  have HS3 : Hid (Stays (only x) w w3) := HS2.out.trans h3s (fun _ _ h => h)
  have HX3 : Hid (w3.heap[w.heap.size]? = some (.cells #[.int .i64 0, .int .i64 0, .slice none 0 0, .slice none 0 0] 24 (0, 0))) := by show _ = _; rw [h3s.block _ hz2 (fun e => by unfold only at e; omega)]; exact HX2.out
  have HR3 : Hid (Rr w3 x s a1) := h3
  have HB4 : Hid (Below w3.heap.size w3 (w3.alloc (.cells #[.int .i64 m, .int .i64 (o : Int), .slice none 0 0, .slice none 0 0] 24))) := (Below.refl _ _).alloc (Nat.le_refl _) _
  have HK4 : Hid ((w3.alloc (.cells #[.int .i64 m, .int .i64 (o : Int), .slice none 0 0, .slice none 0 0] 24)).heap[w3.heap.size]? = some (.cells #[.int .i64 m, .int .i64 (o : Int), .slice none 0 0, .slice none 0 0] 24 (0, 0))) := heap_alloc_new _ _
  have HW4 : Hid (∀ X, X = w3.alloc (.cells #[.int .i64 m, .int .i64 (o : Int), .slice none 0 0, .slice none 0 0] 24) → X = w3.alloc (.cells #[.int .i64 m, .int .i64 (o : Int), .slice none 0 0, .slice none 0 0] 24)) := fun X h => h
  have y0 : (w3.alloc (.cells #[.int .i64 m, .int .i64 (o : Int), .slice none 0 0, .slice none 0 0] 24)).cell? ⟨w3.heap.size, 0, none⟩ = some (.int .i64 m) := by rw [cell_of_row _ _ _ _ _ _ HK4.out]; rfl
  have y1 : (w3.alloc (.cells #[.int .i64 m, .int .i64 (o : Int), .slice none 0 0, .slice none 0 0] 24)).cell? ⟨w3.heap.size, 1, none⟩ = some (.int .i64 (o : Int)) := by rw [cell_of_row _ _ _ _ _ _ HK4.out]; rfl
  have y2 : (w3.alloc (.cells #[.int .i64 m, .int .i64 (o : Int), .slice none 0 0, .slice none 0 0] 24)).cell? ⟨w3.heap.size, 2, none⟩ = some (.slice none 0 0) := by rw [cell_of_row _ _ _ _ _ _ HK4.out]; rfl
  have y3 : (w3.alloc (.cells #[.int .i64 m, .int .i64 (o : Int), .slice none 0 0, .slice none 0 0] 24)).cell? ⟨w3.heap.size, 3, none⟩ = some (.slice none 0 0) := by rw [cell_of_row _ _ _ _ _ _ HK4.out]; rfl
  clear h3 h3s kg2 HS2 HX2 HR2 hz2 HW4
  go_wp2_with fail
  have HN4 : Hid (∀ X2, Below (w3.alloc (.cells #[.int .i64 m, .int .i64 (o : Int), .slice none 0 0, .slice none 0 0] 24)).heap.size (w3.alloc (.cells #[.int .i64 m, .int .i64 (o : Int), .slice none 0 0, .slice none 0 0] 24)) X2 → XD w x s w3.heap.size m (o : Int) (.slice none 0 0) (.slice none 0 0) (.slice none 0 0) (.slice none 0 0) (.slice (some ⟨X2.heap.size, 0, none⟩) 0 TT) [] [] [] a1 (X2.alloc (.cells (madeCells #[.int .i64 0] TT) 3))) := fun X2 hb => by
    refine XD.new w hx HR3.out HS3.out HX3.out X2 ?_ _ TT (by rw [size_madeCells]; simp) (by unfold maxLen; omega)
    have e1 : (w3.alloc (.cells #[.int .i64 m, .int .i64 (o : Int), .slice none 0 0, .slice none 0 0] 24)).heap.size = w3.heap.size + 1 := by simp
    rw [e1] at hb
    exact hb
  generalize hw4 : World.alloc _ _ = w4 at *
  generalize hk : w3.heap.size = k at *
  refine (KS.out w4).mono ?_
  rintro e w5 ⟨rfl, hb5⟩
  have HX6 : Hid (XD w x s k m (o : Int) (.slice none 0 0) (.slice none 0 0) (.slice none 0 0) (.slice none 0 0) (.slice (some ⟨w5.heap.size, 0, none⟩) 0 TT) [] [] [] a1 (w5.alloc (.cells (madeCells #[.int .i64 0] TT) 3))) := HN4.out w5 hb5
  have z0 : w5.cell? ⟨k, 0, none⟩ = some (.int .i64 m) := by
    have hb := hb5.block k (lt_of_block HK4.out)
    rw [cell_of_row _ _ _ _ _ _ (hb.trans HK4.out)]; rfl
  have hmk := HMK.out w5
  clear hb5 KS y0 y1 y2 y3 HN4 HK4 HB4 HS3 HX3 HR3 hw4 hk
  obtain ⟨hm0, hm1⟩ := HM.out
  go_wp2_with fail
  generalize hw6 : World.alloc _ _ = w6 at *
  generalize w5.heap.size = gl at *
  clear hw6 hmk HMK z0
  generalize hNN : 2 ^ o = N at *
  clear hNN
  go_loopw [14, 15] (fun s14 s15 wy => ∃ (i : Nat) (d : Dec) (vP vE vL : Value), i ≤ N ∧ s14 = vL ∧ s15 = .int .i64 (i : Int) ∧ rdParts s m b o r i a1 = some d ∧ XD w x s k m (o : Int) vP vE vP vE vL d.P d.E d.L d.a wy) (fun _ s15 _ => N - (intOf s15).toNat)
  case atStart => exact ⟨0, ⟨[], [], [], a1⟩, _, _, _, Nat.zero_le _, rfl, rfl, rfl, HX6.out⟩
  case round =>
    clear HX6
    obtain ⟨i, d, vP, vE, vL, hi, rfl, rfl, hrp, hxd⟩ := hrel
    obtain ⟨pa, pc, ea, ec, la, lc, rfl, rfl, rfl⟩ := hxd.shape
    have HX : Hid (XD w x s k m (o : Int) (.slice pa d.P.length pc) (.slice ea d.E.length ec) (.slice pa d.P.length pc) (.slice ea d.E.length ec) (.slice la d.L.length lc) d.P d.E d.L d.a wr) := hxd
    have HRP : Hid (rdParts s m b o r i a1 = some d) := hrp
    obtain ⟨lL, lP, lE⟩ := rdParts_len hrp
    have hda : d.a ≤ 8 * s.size := rdParts_le ha1 hrp
    clear hxd hrp
    have hdp : d.P.length ≤ 40000 := by omega
    have hde : d.E.length ≤ 40000 := by omega
    have HLE : Hid (d.L.length ≤ 65535) := by show _ ≤ _; rw [lL]; have h1 := HFT.out i hi; omega
    have HLP : Hid (d.P.length = i ∧ d.E.length = i ∧ d.L.length = frN b o r i) := ⟨lP, lE, lL⟩
    clear lP lE lL
    obtain ⟨y0, y1, y2, y3⟩ := HX.out.cells
    by_cases hil : i < N
    · have kp := KP.out i d.P d.E pa pc ea ec wr hil
      obtain ⟨hft, htl⟩ := HFB.out i hil
      have HLF : Hid (d.L.length = frN b o r i) := HLP.out.2.2
      have HPS : Hid (∀ k e a2 XX a3, rdHead s d.a m = some (k, e, a2) → rdAll s k e (frN b o r (i + 1) - frN b o r i) a2 = some (XX, a3) → rdParts s m b o r (i + 1) a1 = some ⟨d.L ++ XX, d.P ++ [k], d.E ++ [e], a3⟩) := fun k e a2 XX a3 h1 h2 => rdParts_some HRP.out h1 h2
      have HPF : Hid (∀ k e a2, rdHead s d.a m = some (k, e, a2) → rdAll s k e (frN b o r (i + 1) - frN b o r i) a2 = none → decP s a b r = none) := fun k e a2 h1 h2 => HDP0.out (i + 1) hil (rdParts_nums HRP.out h1 h2)
      have HPH : Hid (rdHead s d.a m = none → decP s a b r = none) := fun h1 => HDP0.out (i + 1) hil (rdParts_head HRP.out h1)
      generalize frN b o r i = f at *
      generalize frN b o r (i + 1) = tt at *
      have hdl : d.L.length ≤ 65535 := by have := HLF.out; omega
      have kg := KG.out d.a (4 + m)
      have hv4 := getV_m s d.a m hm0 hm1
      have hA4 := getA_le s d.a (4 + m) hda
      have HHD : Hid (rdHead s d.a m = if getE s d.a (4 + m) = 0 then (if getV s d.a (4 + m) = 15 + 16 * m then (if getE s (getA s d.a (4 + m)) 5 = 0 then some (0, getV s (getA s d.a (4 + m)) 5, getA s (getA s d.a (4 + m)) 5) else none) else some (getV s d.a (4 + m), -1, getA s d.a (4 + m))) else none) := rfl
      generalize getV s d.a (4 + m) = p at *
      generalize getE s d.a (4 + m) = ep at *
      generalize getA s d.a (4 + m) = ap at *
      go_wp2_with fail
      refine kp.mono ?_
      rintro e w4 ⟨rfl, hb4⟩
      have HX4 : Hid (XD w x s k m (o : Int) (.slice pa d.P.length pc) (.slice ea d.E.length ec) (.slice pa d.P.length pc) (.slice ea d.E.length ec) (.slice la d.L.length lc) d.P d.E d.L d.a w4) := HX.out.low hb4
      clear hb4 kp HX y0 y1 y2 y3
      go_wp2_with fail
      refine (kg w4 hda HX4.out.rd).mono ?_
      rintro e w5 ⟨rfl, h5, h5s⟩
      have HX5 : Hid (XD w x s k m (o : Int) (.slice pa d.P.length pc) (.slice ea d.E.length ec) (.slice pa d.P.length pc) (.slice ea d.E.length ec) (.slice la d.L.length lc) d.P d.E d.L ap w5) := HX4.out.read h5 h5s
      clear h5 h5s kg HX4
      by_cases he : ep = 0
      · subst he
        have hp4 : (2 : Int) ^ (4 + m).toNat = 16 + 16 * m := by
          rcases (show m = 0 ∨ m = 1 by omega) with e | e <;> rw [e] <;> rfl
        have hsb : (16 : Int) + 16 * m - 1 = 15 + 16 * m := by omega
        by_cases hmk : p = 15 + 16 * m
        · have hpe : (p == 15 + 16 * m) = true := by rw [beq_iff_eq]; exact hmk
          have kg5 := KG.out ap 5
          have hv5 := getV_5 s ap
          have hA5 := getA_le s ap 5 hA4
          have HHE : Hid (rdHead s d.a m = if getE s ap 5 = 0 then some (0, getV s ap 5, getA s ap 5) else none) := by
            have h0 := HHD.out
            rw [if_pos rfl, if_pos hmk] at h0
            exact h0
          clear HHD hmk
          generalize getV s ap 5 = ev at *
          generalize getE s ap 5 = e5 at *
          generalize getA s ap 5 = a2 at *
          go_wp2_with fail
          refine (kg5 w5 hA4 HX5.out.rd).mono ?_
          rintro e w6 ⟨rfl, h6, h6s⟩
          have HX6 : Hid (XD w x s k m (o : Int) (.slice pa d.P.length pc) (.slice ea d.E.length ec) (.slice pa d.P.length pc) (.slice ea d.E.length ec) (.slice la d.L.length lc) d.P d.E d.L a2 w6) := HX5.out.read h6 h6s
          clear h6 h6s kg5 HX5
          by_cases h5 : e5 = 0
          · have HRH : Hid (rdHead s d.a m = some (0, ev, a2)) := by have h0 := HHE.out; rw [if_pos h5] at h0; exact h0
            subst h5
            clear HHE HPH
            have ha2 : a2 ≤ 8 * s.size := hA5
            obtain ⟨aj, haj⟩ : ∃ aj, aj = a2 := ⟨_, rfl⟩
            have HXJ : Hid (XD w x s k m (o : Int) (.slice pa d.P.length pc) (.slice ea d.E.length ec) (.slice pa d.P.length pc) (.slice ea d.E.length ec) (.slice la d.L.length lc) d.P d.E d.L aj w6) := by rw [haj]; exact HX6.out
            clear HX6
            by_cases hz : ev = 0
            · subst hz
              obtain ⟨wz, hwz⟩ : ∃ wz, wz = w6 := ⟨_, rfl⟩
              subst hwz
              have HTD : Hid (XD w x s k m (o : Int) (.slice pa d.P.length pc) (.slice ea d.E.length ec) (.slice pa d.P.length pc) (.slice ea d.E.length ec) (.slice la d.L.length lc) d.P d.E d.L aj wz.drew) := HXJ.out.drew
              obtain ⟨y0, y1, y2, y3⟩ := HXJ.out.cells
              have HCE : Hid (∀ b2 b3 vP vE P E wx, XD w x s k m (o : Int) b2 b3 vP vE (.slice la d.L.length lc) P E d.L aj wx → wx.cell? ⟨k, 0, none⟩ = some (.int .i64 m) ∧ wx.cell? ⟨k, 1, none⟩ = some (.int .i64 (o : Int)) ∧ wx.cell? ⟨k, 2, none⟩ = some b2 ∧ wx.cell? ⟨k, 3, none⟩ = some b3) := fun _ _ _ _ _ _ _ h => h.cells
              have HPX : Hid (∀ XX a3, rdAll s 0 0 (tt - f) a2 = some (XX, a3) → rdParts s m b o r (i + 1) a1 = some ⟨d.L ++ XX, d.P ++ [0], d.E ++ [0], a3⟩) := fun XX a3 h => HPS.out 0 0 a2 XX a3 HRH.out h
              have HDPX : Hid (rdAll s 0 0 (tt - f) a2 = none → decP s a b r = none) := fun h => HPF.out 0 0 a2 HRH.out h
              clear HXJ HPS HPF
              go_wp2_with fail
              refine wp_region_noPanic ?_
              refine Till.begin (n := 11) (S := fun wx => wx.cell? ⟨k, 2, none⟩ = some (.slice pa d.P.length pc) ∧ wx.cell? ⟨k, 3, none⟩ = some (.slice ea d.E.length ec)) (by kernel_rfl) (HCE.out _ _ _ _ _ _ _ HTD.out).2.2 (fun hS => ?_)
              refine Till.take (i := 0) (v := .pointer (some ⟨k, 2, none⟩)) rfl (by kernel_rfl) (by kernel_rfl) (by kernel_rfl) (fun _ _ _ h => h) (by decide) (Waits.of (by kernel_rfl)) (by kernel_rfl) (Or.inl ⟨by rfl, fun w hSw => by (obtain ⟨s2, s3⟩ := hSw; go_simp)⟩) hS ?_
              try simp only [Act.put, List.getElem_toArray, List.getElem_cons_succ, List.getElem_cons_zero, List.setIfInBounds_toArray, List.set_cons_zero, List.set_cons_succ]
              refine Till.take (i := 1) (v := (.slice pa d.P.length pc)) rfl (by kernel_rfl) (by kernel_rfl) (by kernel_rfl) (fun _ _ _ h => h) (by decide) (Waits.of (by kernel_rfl)) (by kernel_rfl) (Or.inl ⟨by rfl, fun w hSw => by (obtain ⟨s2, s3⟩ := hSw; go_simp)⟩) hS ?_
              try simp only [Act.put, List.getElem_toArray, List.getElem_cons_succ, List.getElem_cons_zero, List.setIfInBounds_toArray, List.set_cons_zero, List.set_cons_succ]
              refine Till.take (i := 2) (v := .int .i64 0) rfl (by kernel_rfl) (by kernel_rfl) (by kernel_rfl) (fun _ _ _ h => h) (by decide) (Waits.of (by kernel_rfl)) (by kernel_rfl) (Or.inl ⟨by rfl, fun w hSw => by (obtain ⟨s2, s3⟩ := hSw; go_simp)⟩) hS ?_
              try simp only [Act.put, List.getElem_toArray, List.getElem_cons_succ, List.getElem_cons_zero, List.setIfInBounds_toArray, List.set_cons_zero, List.set_cons_succ]
              refine Till.take (i := 5) (v := .pointer (some ⟨k, 3, none⟩)) rfl (by kernel_rfl) (by kernel_rfl) (by kernel_rfl) (fun _ _ _ h => h) (by decide) (Waits.of (by kernel_rfl)) (by kernel_rfl) (Or.inl ⟨by rfl, fun w hSw => by (obtain ⟨s2, s3⟩ := hSw; go_simp)⟩) hS ?_
              try simp only [Act.put, List.getElem_toArray, List.getElem_cons_succ, List.getElem_cons_zero, List.setIfInBounds_toArray, List.set_cons_zero, List.set_cons_succ]
              refine Till.take (i := 6) (v := (.slice ea d.E.length ec)) rfl (by kernel_rfl) (by kernel_rfl) (by kernel_rfl) (fun _ _ _ h => h) (by decide) (Waits.of (by kernel_rfl)) (by kernel_rfl) (Or.inl ⟨by rfl, fun w hSw => by (obtain ⟨s2, s3⟩ := hSw; go_simp)⟩) hS ?_
              try simp only [Act.put, List.getElem_toArray, List.getElem_cons_succ, List.getElem_cons_zero, List.setIfInBounds_toArray, List.set_cons_zero, List.set_cons_succ]
              refine Till.takeP (i := 7) (v := .int .i64 0) rfl (by kernel_rfl) (by kernel_rfl) (by kernel_rfl) (fun _ _ _ h => h) (by decide) (Or.inl ⟨by rfl, fun w _ => by go_simp⟩) hS ?_
              try simp only [Act.put, List.getElem_toArray, List.getElem_cons_succ, List.getElem_cons_zero, List.setIfInBounds_toArray, List.set_cons_zero, List.set_cons_succ]
              refine Till.ready (rs := [3, 8]) (by kernel_rfl) (by simp) ?_
              refine Ups.cons rfl (fun K hK => ?_) ?_
              · go_simp
                have hS3 := (HCE.out _ _ _ _ _ _ _ (HTD.out.alloc (.cells #[.int .i64 0] 3))).2.2
                refine hK.out _ _ (fun _ => hS3) ?_
                clear hK K
                try simp only [Act.put, List.getElem_toArray, List.getElem_cons_succ, List.getElem_cons_zero, List.setIfInBounds_toArray, List.set_cons_zero, List.set_cons_succ]
                refine Till.ready (rs := [4, 8]) (by kernel_rfl) (by simp) ?_
                refine Ups.cons rfl (fun K hK => ?_) ?_
                · refine step_append_lies _ (by rfl) _ _ _ (by rfl) (k + 1) 3 i3 (.int .i64 0) 1 8 undI3 h3a h3b h3c h3d rfl (by omega) (.slice pa d.P.length pc) d.P.length (intsC d.P) (by rfl) ((HTD.out.alloc (.cells #[.int .i64 0] 3)).oP) ⟨wz.heap.size, 0, none⟩ 1 1 [.int .i64 0] (by rfl) (by rfl) (World.news_of_block (cs := #[.int .i64 0]) (t := 3) (fr := (0, 0)) (tmp_new wz.drew _)) (one_int _ _) (by omega) (by unfold maxLen; omega) (by omega) ((HTD.out.alloc (.cells #[.int .i64 0] 3)).lt) _ rfl ?_
                  intro gP cP wP ownP groP hatP hltP
                  have HTP : Hid (XD w x s k m (o : Int) (.slice pa d.P.length pc) (.slice ea d.E.length ec) (.slice (some ⟨gP, 0, none⟩) (d.P.length + 1) cP) (.slice ea d.E.length ec) (.slice la d.L.length lc) (d.P ++ [0]) d.E d.L aj wP) := (HTD.out.alloc (.cells #[.int .i64 0] 3)).pushP ownP groP hatP
                  have hS4 := (HCE.out _ _ _ _ _ _ _ HTP.out).2.2
                  refine hK.out _ _ (fun _ => hS4) ?_
                  clear hK K
                  try simp only [Act.put, List.getElem_toArray, List.getElem_cons_succ, List.getElem_cons_zero, List.setIfInBounds_toArray, List.set_cons_zero, List.set_cons_succ]
                  refine Till.take (i := 10) (v := .pointer (some ⟨k, 2, none⟩)) rfl (by kernel_rfl) (by kernel_rfl) (by kernel_rfl) (fun _ _ _ h => h) (by decide) (Waits.of (by kernel_rfl)) (by kernel_rfl) (Or.inl ⟨by rfl, fun w hSw => by (obtain ⟨s2, s3⟩ := hSw; go_simp)⟩) hS4 ?_
                  try simp only [Act.put, List.getElem_toArray, List.getElem_cons_succ, List.getElem_cons_zero, List.setIfInBounds_toArray, List.set_cons_zero, List.set_cons_succ]
                  refine Till.ready (rs := [8]) (by kernel_rfl) (by simp) ?_
                  refine Ups.cons rfl (fun K hK => ?_) Ups.nil
                  go_simp
                  have hS7 := (HCE.out _ _ _ _ _ _ _ (HTP.out.alloc (.cells #[.int .i64 0] 3))).2.2
                  refine hK.out _ _ (fun _ => hS7) ?_
                  clear hK K
                  try simp only [Act.put, List.getElem_toArray, List.getElem_cons_succ, List.getElem_cons_zero, List.setIfInBounds_toArray, List.set_cons_zero, List.set_cons_succ]
                  refine Till.ready (rs := [9]) (by kernel_rfl) (by simp) ?_
                  refine Ups.cons rfl (fun K hK => ?_) Ups.nil
                  refine step_append_lies _ (by rfl) _ _ _ (by rfl) (k + 1) 3 i3 (.int .i64 0) 1 8 undI3 h3a h3b h3c h3d rfl (by omega) (.slice ea d.E.length ec) d.E.length (intsC d.E) (by rfl) ((HTP.out.alloc (.cells #[.int .i64 0] 3)).oE) ⟨wP.heap.size, 0, none⟩ 1 1 [.int .i64 0] (by rfl) (by rfl) (World.news_of_block (cs := #[.int .i64 0]) (t := 3) (fr := (0, 0)) (tmp_new wP _)) (one_int _ _) (by omega) (by unfold maxLen; omega) (by omega) ((HTP.out.alloc (.cells #[.int .i64 0] 3)).lt) _ rfl ?_
                  intro gE cE wE ownE groE hatE hltE
                  have HTE : Hid (XD w x s k m (o : Int) (.slice pa d.P.length pc) (.slice ea d.E.length ec) (.slice (some ⟨gP, 0, none⟩) (d.P.length + 1) cP) (.slice (some ⟨gE, 0, none⟩) (d.E.length + 1) cE) (.slice la d.L.length lc) (d.P ++ [0]) (d.E ++ [0]) d.L aj wE) := (HTP.out.alloc (.cells #[.int .i64 0] 3)).pushE ownE groE hatE
                  have hS8 := (HCE.out _ _ _ _ _ _ _ HTE.out).2.2
                  refine hK.out _ _ (fun _ => hS8) ?_
                  clear hK K
                  try simp only [Act.put, List.getElem_toArray, List.getElem_cons_succ, List.getElem_cons_zero, List.setIfInBounds_toArray, List.set_cons_zero, List.set_cons_succ]
                  clear ownE groE hatE hltE ownP groP hatP hltP
                  obtain ⟨z0, z1, z2, z3⟩ := HTE.out.cells
                  have fz2 := HTE.out.frozen 2
                  have fz3 := HTE.out.frozen 3
                  refine Till.ready (rs := [11]) (by kernel_rfl) (by simp) ?_
                  refine Ups.cons rfl (fun K hK => ?_) Ups.nil
                  go_simp
                  refine hK.out _ _ (fun h => Bool.noConfusion (Eq.trans (Eq.symm h) (by kernel_rfl : _ = true))) ?_
                  clear hK K
                  try simp only [Act.put, List.getElem_toArray, List.getElem_cons_succ, List.getElem_cons_zero, List.setIfInBounds_toArray, List.set_cons_zero, List.set_cons_succ]
                  refine Till.ready (rs := [12]) (by kernel_rfl) (by simp) ?_
                  refine Ups.cons rfl (fun K hK => ?_) Ups.nil
                  go_simp
                  refine hK.out _ _ (fun h => Bool.noConfusion (Eq.trans (Eq.symm h) (by kernel_rfl : _ = true))) ?_
                  clear hK K
                  try simp only [Act.put, List.getElem_toArray, List.getElem_cons_succ, List.getElem_cons_zero, List.setIfInBounds_toArray, List.set_cons_zero, List.set_cons_succ]
                  refine Till.ready (rs := [13]) (by kernel_rfl) (by simp) ?_
                  refine Ups.cons rfl (fun K hK => ?_) Ups.nil
                  go_simp
                  refine hK.out _ _ (fun h => Bool.noConfusion (Eq.trans (Eq.symm h) (by kernel_rfl : _ = true))) ?_
                  clear hK K
                  try simp only [Act.put, List.getElem_toArray, List.getElem_cons_succ, List.getElem_cons_zero, List.setIfInBounds_toArray, List.set_cons_zero, List.set_cons_succ]
                  refine Till.done (by kernel_rfl) ?_
                  clear z0 z1 z2 z3 fz2 fz3
                  refine NoPanic.normal ?_
                  --@z
                  go_wp2_with fail
                  go_loopw [14, 24] (fun s14 s24 wy => ∃ (c : Nat) (XX : List Int) (a3 : Nat) (vL : Value), c ≤ tt - f ∧ s24 = .int .i64 ((f + c : Nat) : Int) ∧ s14 = vL ∧ rdAll s 0 0 c a2 = some (XX, a3) ∧ XD w x s k m (o : Int) (.slice (some ⟨gP, 0, none⟩) (d.P.length + 1) cP) (.slice (some ⟨gE, 0, none⟩) (d.E.length + 1) cE) (.slice (some ⟨gP, 0, none⟩) (d.P.length + 1) cP) (.slice (some ⟨gE, 0, none⟩) (d.E.length + 1) cE) vL (d.P ++ [0]) (d.E ++ [0]) (d.L ++ XX) a3 wy) (fun _ s24 _ => tt - (intOf s24).toNat)
                  case atStart => exact ⟨0, [], a2, _, Nat.zero_le _, by rw [Nat.add_zero], rfl, rfl, by rw [List.append_nil, ← haj]; exact HTE.out.set⟩
                  case round =>
                    clear HTE HTP HTD
                    obtain ⟨c, XX, a3, vL, hc, rfl, rfl, hrx, hxd⟩ := hrel
                    obtain ⟨lb, ld, rfl⟩ := hxd.shapeL
                    have HX : Hid (XD w x s k m (o : Int) (.slice (some ⟨gP, 0, none⟩) (d.P.length + 1) cP) (.slice (some ⟨gE, 0, none⟩) (d.E.length + 1) cE) (.slice (some ⟨gP, 0, none⟩) (d.P.length + 1) cP) (.slice (some ⟨gE, 0, none⟩) (d.E.length + 1) cE) (.slice lb (d.L ++ XX).length ld) (d.P ++ [0]) (d.E ++ [0]) (d.L ++ XX) a3 wr) := hxd
                    clear hxd
                    have HRX : Hid (rdAll s 0 0 c a2 = some (XX, a3)) := hrx
                    have ha3 : a3 ≤ 8 * s.size := rdAll_le hrx ha2
                    have hlx := rdAll_len hrx
                    clear hrx
                    have hLLn : (d.L ++ XX).length ≤ 65535 := by rw [List.length_append, HLF.out, hlx]; omega
                    clear hlx
                    have hbx := rd_bound s a3 0 0 (by omega) (by omega)
                    generalize hLL : d.L ++ XX = LL at *
                    have HLL : Hid (d.L ++ XX = LL) := hLL
                    clear hLL
                    by_cases hcl : c < tt - f
                    · have hlt2 : f + c < tt := by omega
                      have HDN : Hid (¬ rdE s a3 0 0 = 0 → decP s a b r = none) := fun hne => HDPX.out (rdAll_none (tt - f) (rdAll_stop HRX.out hne) (by omega))
                      have HDO : Hid (rdE s a3 0 0 = 0 → rdAll s 0 0 (c + 1) a2 = some (XX ++ [rdV s a3 0 0], rdA s a3 0 0)) := fun h0 => rdAll_some HRX.out h0
                      clear HRX
                      generalize hfc : f + c = fc at *
                      have HFC : Hid (f + c = fc) := hfc
                      clear hfc
                      have e1 : rdE s a3 0 0 = 0 := by unfold rdE; rw [if_neg (by decide), if_pos rfl]
                      have e2 : rdV s a3 0 0 = 0 := by unfold rdV; rw [if_neg (by decide), if_pos rfl]
                      have e3 : rdA s a3 0 0 = a3 := by unfold rdA; rw [if_neg (by decide), if_pos rfl]
                      have HRN : Hid (rdAll s 0 0 (c + 1) a2 = some (XX ++ [0], a3)) := by have := HDO.out e1; rw [e2, e3] at this; exact this
                      clear HDO HDN e1 e2 e3 hbx
                      obtain ⟨a4, ha4⟩ : ∃ a4, a4 = a3 := ⟨_, rfl⟩
                      subst ha4
                      go_wp2_with (at_builtin; refine wpList_append_lies _ rfl (.tmp 170) (.tmp 172) 22 rfl (k + 1) 3 i3 (.int .i64 0) 1 8 undI3 h3a h3b h3c h3d rfl (by decide) (.slice lb LL.length ld) LL.length (intsC LL) rfl (HX.out.alloc _).oL ⟨wr.heap.size, 0, none⟩ 1 1 [.int .i64 0] rfl rfl (World.news_of_block (cs := #[.int .i64 0]) (t := 3) (fr := (0, 0)) (tmp_new wr _)) (one_int _ _) (by omega) (by unfold maxLen; omega) (by omega) (HX.out.alloc _).lt _ rfl ?_; intro gL cL wL ownL groL hatL hltL)
                      have HXL : Hid (XD w x s k m (o : Int) (.slice (some ⟨gP, 0, none⟩) (d.P.length + 1) cP) (.slice (some ⟨gE, 0, none⟩) (d.E.length + 1) cE) (.slice (some ⟨gP, 0, none⟩) (d.P.length + 1) cP) (.slice (some ⟨gE, 0, none⟩) (d.E.length + 1) cE) (.slice (some ⟨gL, 0, none⟩) (LL.length + 1) cL) (d.P ++ [0]) (d.E ++ [0]) (LL ++ [0]) a4 wL) := (HX.out.alloc _).pushL ownL groL hatL
                      clear ownL groL hatL hltL
                      go_wp2_with fail
                      go_roundw
                      case rel => exact ⟨c + 1, XX ++ [0], a4, _, by omega, by have := HFC.out; rw [← this]; go_num, rfl, HRN.out, by rw [← List.append_assoc, HLL.out]; exact HXL.out⟩
                      case measure => have := HFC.out; simp [intOf]; omega
                    · have hce : c = tt - f := by omega
                      subst hce
                      have HPN : Hid (rdParts s m b o r (i + 1) a1 = some ⟨d.L ++ XX, d.P ++ [0], d.E ++ [0], a3⟩) := HPX.out XX a3 HRX.out
                      have hft : f + (tt - f) = tt := by omega
                      go_wp2_with fail
                      go_roundw
                      case rel => exact ⟨i + 1, ⟨d.L ++ XX, d.P ++ [0], d.E ++ [0], a3⟩, _, _, _, by omega, rfl, by go_num, HPN.out, by show XD _ _ _ _ _ _ _ _ _ _ _ _ _ (d.L ++ XX) _ _; rw [HLL.out]; exact HX.out⟩
                      case measure => simp [intOf]; omega
                  --@/z

                · refine Ups.cons rfl (fun K hK => ?_) Ups.nil
                  go_simp
                  have hS7 := (HCE.out _ _ _ _ _ _ _ ((HTD.out.alloc (.cells #[.int .i64 0] 3)).alloc (.cells #[.int .i64 0] 3))).2.2
                  refine hK.out _ _ (fun _ => hS7) ?_
                  clear hK K
                  try simp only [Act.put, List.getElem_toArray, List.getElem_cons_succ, List.getElem_cons_zero, List.setIfInBounds_toArray, List.set_cons_zero, List.set_cons_succ]
                  refine Till.ready (rs := [4]) (by kernel_rfl) (by simp) ?_
                  refine Ups.cons rfl (fun K hK => ?_) Ups.nil
                  refine step_append_lies _ (by rfl) _ _ _ (by rfl) (k + 1) 3 i3 (.int .i64 0) 1 8 undI3 h3a h3b h3c h3d rfl (by omega) (.slice pa d.P.length pc) d.P.length (intsC d.P) (by rfl) (((HTD.out.alloc (.cells #[.int .i64 0] 3)).alloc (.cells #[.int .i64 0] 3)).oP) ⟨wz.heap.size, 0, none⟩ 1 1 [.int .i64 0] (by rfl) (by rfl) (World.news_of_block (cs := #[.int .i64 0]) (t := 3) (fr := (0, 0)) (tmp_old wz.drew _ _)) (one_int _ _) (by omega) (by unfold maxLen; omega) (by omega) (((HTD.out.alloc (.cells #[.int .i64 0] 3)).alloc (.cells #[.int .i64 0] 3)).lt) _ rfl ?_
                  intro gP cP wP ownP groP hatP hltP
                  have HTP : Hid (XD w x s k m (o : Int) (.slice pa d.P.length pc) (.slice ea d.E.length ec) (.slice (some ⟨gP, 0, none⟩) (d.P.length + 1) cP) (.slice ea d.E.length ec) (.slice la d.L.length lc) (d.P ++ [0]) d.E d.L aj wP) := ((HTD.out.alloc (.cells #[.int .i64 0] 3)).alloc (.cells #[.int .i64 0] 3)).pushP ownP groP hatP
                  have HTM : Hid (wP.heap[wz.heap.size + 1]? = some (.cells #[.int .i64 0] 3 (0, 0))) := tmp_kept groP (tmp_next wz.drew _ _) (fun e => by have h9 := (HTD.out.oP.lt _ e).2; have h8 : wz.drew.heap.size = wz.heap.size := rfl; omega)
                  have hS4 := (HCE.out _ _ _ _ _ _ _ HTP.out).2.2
                  refine hK.out _ _ (fun _ => hS4) ?_
                  clear hK K
                  try simp only [Act.put, List.getElem_toArray, List.getElem_cons_succ, List.getElem_cons_zero, List.setIfInBounds_toArray, List.set_cons_zero, List.set_cons_succ]
                  refine Till.take (i := 10) (v := .pointer (some ⟨k, 2, none⟩)) rfl (by kernel_rfl) (by kernel_rfl) (by kernel_rfl) (fun _ _ _ h => h) (by decide) (Waits.of (by kernel_rfl)) (by kernel_rfl) (Or.inl ⟨by rfl, fun w hSw => by (obtain ⟨s2, s3⟩ := hSw; go_simp)⟩) hS4 ?_
                  try simp only [Act.put, List.getElem_toArray, List.getElem_cons_succ, List.getElem_cons_zero, List.setIfInBounds_toArray, List.set_cons_zero, List.set_cons_succ]
                  refine Till.ready (rs := [9]) (by kernel_rfl) (by simp) ?_
                  refine Ups.cons rfl (fun K hK => ?_) Ups.nil
                  refine step_append_lies _ (by rfl) _ _ _ (by rfl) (k + 1) 3 i3 (.int .i64 0) 1 8 undI3 h3a h3b h3c h3d rfl (by omega) (.slice ea d.E.length ec) d.E.length (intsC d.E) (by rfl) HTP.out.oE ⟨wz.heap.size + 1, 0, none⟩ 1 1 [.int .i64 0] (by rfl) (by rfl) (World.news_of_block (cs := #[.int .i64 0]) (t := 3) (fr := (0, 0)) (HTM.out)) (one_int _ _) (by omega) (by unfold maxLen; omega) (by omega) HTP.out.lt _ rfl ?_
                  intro gE cE wE ownE groE hatE hltE
                  have HTE : Hid (XD w x s k m (o : Int) (.slice pa d.P.length pc) (.slice ea d.E.length ec) (.slice (some ⟨gP, 0, none⟩) (d.P.length + 1) cP) (.slice (some ⟨gE, 0, none⟩) (d.E.length + 1) cE) (.slice la d.L.length lc) (d.P ++ [0]) (d.E ++ [0]) d.L aj wE) := HTP.out.pushE ownE groE hatE
                  have hS8 := (HCE.out _ _ _ _ _ _ _ HTE.out).2.2
                  refine hK.out _ _ (fun _ => hS8) ?_
                  clear hK K
                  try simp only [Act.put, List.getElem_toArray, List.getElem_cons_succ, List.getElem_cons_zero, List.setIfInBounds_toArray, List.set_cons_zero, List.set_cons_succ]
                  clear ownE groE hatE hltE ownP groP hatP hltP
                  obtain ⟨z0, z1, z2, z3⟩ := HTE.out.cells
                  have fz2 := HTE.out.frozen 2
                  have fz3 := HTE.out.frozen 3
                  refine Till.ready (rs := [11]) (by kernel_rfl) (by simp) ?_
                  refine Ups.cons rfl (fun K hK => ?_) Ups.nil
                  go_simp
                  refine hK.out _ _ (fun h => Bool.noConfusion (Eq.trans (Eq.symm h) (by kernel_rfl : _ = true))) ?_
                  clear hK K
                  try simp only [Act.put, List.getElem_toArray, List.getElem_cons_succ, List.getElem_cons_zero, List.setIfInBounds_toArray, List.set_cons_zero, List.set_cons_succ]
                  refine Till.ready (rs := [12]) (by kernel_rfl) (by simp) ?_
                  refine Ups.cons rfl (fun K hK => ?_) Ups.nil
                  go_simp
                  refine hK.out _ _ (fun h => Bool.noConfusion (Eq.trans (Eq.symm h) (by kernel_rfl : _ = true))) ?_
                  clear hK K
                  try simp only [Act.put, List.getElem_toArray, List.getElem_cons_succ, List.getElem_cons_zero, List.setIfInBounds_toArray, List.set_cons_zero, List.set_cons_succ]
                  refine Till.ready (rs := [13]) (by kernel_rfl) (by simp) ?_
                  refine Ups.cons rfl (fun K hK => ?_) Ups.nil
                  go_simp
                  refine hK.out _ _ (fun h => Bool.noConfusion (Eq.trans (Eq.symm h) (by kernel_rfl : _ = true))) ?_
                  clear hK K
                  try simp only [Act.put, List.getElem_toArray, List.getElem_cons_succ, List.getElem_cons_zero, List.setIfInBounds_toArray, List.set_cons_zero, List.set_cons_succ]
                  refine Till.done (by kernel_rfl) ?_
                  clear z0 z1 z2 z3 fz2 fz3
                  refine NoPanic.normal ?_
                  --@z
                  go_wp2_with fail
                  go_loopw [14, 24] (fun s14 s24 wy => ∃ (c : Nat) (XX : List Int) (a3 : Nat) (vL : Value), c ≤ tt - f ∧ s24 = .int .i64 ((f + c : Nat) : Int) ∧ s14 = vL ∧ rdAll s 0 0 c a2 = some (XX, a3) ∧ XD w x s k m (o : Int) (.slice (some ⟨gP, 0, none⟩) (d.P.length + 1) cP) (.slice (some ⟨gE, 0, none⟩) (d.E.length + 1) cE) (.slice (some ⟨gP, 0, none⟩) (d.P.length + 1) cP) (.slice (some ⟨gE, 0, none⟩) (d.E.length + 1) cE) vL (d.P ++ [0]) (d.E ++ [0]) (d.L ++ XX) a3 wy) (fun _ s24 _ => tt - (intOf s24).toNat)
                  case atStart => exact ⟨0, [], a2, _, Nat.zero_le _, by rw [Nat.add_zero], rfl, rfl, by rw [List.append_nil, ← haj]; exact HTE.out.set⟩
                  case round =>
                    clear HTE HTP HTD
                    obtain ⟨c, XX, a3, vL, hc, rfl, rfl, hrx, hxd⟩ := hrel
                    obtain ⟨lb, ld, rfl⟩ := hxd.shapeL
                    have HX : Hid (XD w x s k m (o : Int) (.slice (some ⟨gP, 0, none⟩) (d.P.length + 1) cP) (.slice (some ⟨gE, 0, none⟩) (d.E.length + 1) cE) (.slice (some ⟨gP, 0, none⟩) (d.P.length + 1) cP) (.slice (some ⟨gE, 0, none⟩) (d.E.length + 1) cE) (.slice lb (d.L ++ XX).length ld) (d.P ++ [0]) (d.E ++ [0]) (d.L ++ XX) a3 wr) := hxd
                    clear hxd
                    have HRX : Hid (rdAll s 0 0 c a2 = some (XX, a3)) := hrx
                    have ha3 : a3 ≤ 8 * s.size := rdAll_le hrx ha2
                    have hlx := rdAll_len hrx
                    clear hrx
                    have hLLn : (d.L ++ XX).length ≤ 65535 := by rw [List.length_append, HLF.out, hlx]; omega
                    clear hlx
                    have hbx := rd_bound s a3 0 0 (by omega) (by omega)
                    generalize hLL : d.L ++ XX = LL at *
                    have HLL : Hid (d.L ++ XX = LL) := hLL
                    clear hLL
                    by_cases hcl : c < tt - f
                    · have hlt2 : f + c < tt := by omega
                      have HDN : Hid (¬ rdE s a3 0 0 = 0 → decP s a b r = none) := fun hne => HDPX.out (rdAll_none (tt - f) (rdAll_stop HRX.out hne) (by omega))
                      have HDO : Hid (rdE s a3 0 0 = 0 → rdAll s 0 0 (c + 1) a2 = some (XX ++ [rdV s a3 0 0], rdA s a3 0 0)) := fun h0 => rdAll_some HRX.out h0
                      clear HRX
                      generalize hfc : f + c = fc at *
                      have HFC : Hid (f + c = fc) := hfc
                      clear hfc
                      have e1 : rdE s a3 0 0 = 0 := by unfold rdE; rw [if_neg (by decide), if_pos rfl]
                      have e2 : rdV s a3 0 0 = 0 := by unfold rdV; rw [if_neg (by decide), if_pos rfl]
                      have e3 : rdA s a3 0 0 = a3 := by unfold rdA; rw [if_neg (by decide), if_pos rfl]
                      have HRN : Hid (rdAll s 0 0 (c + 1) a2 = some (XX ++ [0], a3)) := by have := HDO.out e1; rw [e2, e3] at this; exact this
                      clear HDO HDN e1 e2 e3 hbx
                      obtain ⟨a4, ha4⟩ : ∃ a4, a4 = a3 := ⟨_, rfl⟩
                      subst ha4
                      go_wp2_with (at_builtin; refine wpList_append_lies _ rfl (.tmp 170) (.tmp 172) 22 rfl (k + 1) 3 i3 (.int .i64 0) 1 8 undI3 h3a h3b h3c h3d rfl (by decide) (.slice lb LL.length ld) LL.length (intsC LL) rfl (HX.out.alloc _).oL ⟨wr.heap.size, 0, none⟩ 1 1 [.int .i64 0] rfl rfl (World.news_of_block (cs := #[.int .i64 0]) (t := 3) (fr := (0, 0)) (tmp_new wr _)) (one_int _ _) (by omega) (by unfold maxLen; omega) (by omega) (HX.out.alloc _).lt _ rfl ?_; intro gL cL wL ownL groL hatL hltL)
                      have HXL : Hid (XD w x s k m (o : Int) (.slice (some ⟨gP, 0, none⟩) (d.P.length + 1) cP) (.slice (some ⟨gE, 0, none⟩) (d.E.length + 1) cE) (.slice (some ⟨gP, 0, none⟩) (d.P.length + 1) cP) (.slice (some ⟨gE, 0, none⟩) (d.E.length + 1) cE) (.slice (some ⟨gL, 0, none⟩) (LL.length + 1) cL) (d.P ++ [0]) (d.E ++ [0]) (LL ++ [0]) a4 wL) := (HX.out.alloc _).pushL ownL groL hatL
                      clear ownL groL hatL hltL
                      go_wp2_with fail
                      go_roundw
                      case rel => exact ⟨c + 1, XX ++ [0], a4, _, by omega, by have := HFC.out; rw [← this]; go_num, rfl, HRN.out, by rw [← List.append_assoc, HLL.out]; exact HXL.out⟩
                      case measure => have := HFC.out; simp [intOf]; omega
                    · have hce : c = tt - f := by omega
                      subst hce
                      have HPN : Hid (rdParts s m b o r (i + 1) a1 = some ⟨d.L ++ XX, d.P ++ [0], d.E ++ [0], a3⟩) := HPX.out XX a3 HRX.out
                      have hft : f + (tt - f) = tt := by omega
                      go_wp2_with fail
                      go_roundw
                      case rel => exact ⟨i + 1, ⟨d.L ++ XX, d.P ++ [0], d.E ++ [0], a3⟩, _, _, _, by omega, rfl, by go_num, HPN.out, by show XD _ _ _ _ _ _ _ _ _ _ _ _ _ (d.L ++ XX) _ _; rw [HLL.out]; exact HX.out⟩
                      case measure => simp [intOf]; omega
                  --@/z


              · refine Ups.cons rfl (fun K hK => ?_) Ups.nil
                go_simp
                have hS7 := (HCE.out _ _ _ _ _ _ _ (HTD.out.alloc (.cells #[.int .i64 0] 3))).2.2
                refine hK.out _ _ (fun _ => hS7) ?_
                clear hK K
                try simp only [Act.put, List.getElem_toArray, List.getElem_cons_succ, List.getElem_cons_zero, List.setIfInBounds_toArray, List.set_cons_zero, List.set_cons_succ]
                refine Till.ready (rs := [3]) (by kernel_rfl) (by simp) ?_
                refine Ups.cons rfl (fun K hK => ?_) Ups.nil
                go_simp
                have hS3 := (HCE.out _ _ _ _ _ _ _ ((HTD.out.alloc (.cells #[.int .i64 0] 3)).alloc (.cells #[.int .i64 0] 3))).2.2
                refine hK.out _ _ (fun _ => hS3) ?_
                clear hK K
                try simp only [Act.put, List.getElem_toArray, List.getElem_cons_succ, List.getElem_cons_zero, List.setIfInBounds_toArray, List.set_cons_zero, List.set_cons_succ]
                refine Till.ready (rs := [4]) (by kernel_rfl) (by simp) ?_
                refine Ups.cons rfl (fun K hK => ?_) Ups.nil
                refine step_append_lies _ (by rfl) _ _ _ (by rfl) (k + 1) 3 i3 (.int .i64 0) 1 8 undI3 h3a h3b h3c h3d rfl (by omega) (.slice pa d.P.length pc) d.P.length (intsC d.P) (by rfl) (((HTD.out.alloc (.cells #[.int .i64 0] 3)).alloc (.cells #[.int .i64 0] 3)).oP) ⟨wz.heap.size + 1, 0, none⟩ 1 1 [.int .i64 0] (by rfl) (by rfl) (World.news_of_block (cs := #[.int .i64 0]) (t := 3) (fr := (0, 0)) (tmp_next wz.drew _ _)) (one_int _ _) (by omega) (by unfold maxLen; omega) (by omega) (((HTD.out.alloc (.cells #[.int .i64 0] 3)).alloc (.cells #[.int .i64 0] 3)).lt) _ rfl ?_
                intro gP cP wP ownP groP hatP hltP
                have HTP : Hid (XD w x s k m (o : Int) (.slice pa d.P.length pc) (.slice ea d.E.length ec) (.slice (some ⟨gP, 0, none⟩) (d.P.length + 1) cP) (.slice ea d.E.length ec) (.slice la d.L.length lc) (d.P ++ [0]) d.E d.L aj wP) := ((HTD.out.alloc (.cells #[.int .i64 0] 3)).alloc (.cells #[.int .i64 0] 3)).pushP ownP groP hatP
                have HTM : Hid (wP.heap[wz.heap.size]? = some (.cells #[.int .i64 0] 3 (0, 0))) := tmp_kept groP (tmp_old wz.drew _ _) (fun e => by have h9 := (HTD.out.oP.lt _ e).2; have h8 : wz.drew.heap.size = wz.heap.size := rfl; omega)
                have hS4 := (HCE.out _ _ _ _ _ _ _ HTP.out).2.2
                refine hK.out _ _ (fun _ => hS4) ?_
                clear hK K
                try simp only [Act.put, List.getElem_toArray, List.getElem_cons_succ, List.getElem_cons_zero, List.setIfInBounds_toArray, List.set_cons_zero, List.set_cons_succ]
                refine Till.take (i := 10) (v := .pointer (some ⟨k, 2, none⟩)) rfl (by kernel_rfl) (by kernel_rfl) (by kernel_rfl) (fun _ _ _ h => h) (by decide) (Waits.of (by kernel_rfl)) (by kernel_rfl) (Or.inl ⟨by rfl, fun w hSw => by (obtain ⟨s2, s3⟩ := hSw; go_simp)⟩) hS4 ?_
                try simp only [Act.put, List.getElem_toArray, List.getElem_cons_succ, List.getElem_cons_zero, List.setIfInBounds_toArray, List.set_cons_zero, List.set_cons_succ]
                refine Till.ready (rs := [9]) (by kernel_rfl) (by simp) ?_
                refine Ups.cons rfl (fun K hK => ?_) Ups.nil
                refine step_append_lies _ (by rfl) _ _ _ (by rfl) (k + 1) 3 i3 (.int .i64 0) 1 8 undI3 h3a h3b h3c h3d rfl (by omega) (.slice ea d.E.length ec) d.E.length (intsC d.E) (by rfl) HTP.out.oE ⟨wz.heap.size, 0, none⟩ 1 1 [.int .i64 0] (by rfl) (by rfl) (World.news_of_block (cs := #[.int .i64 0]) (t := 3) (fr := (0, 0)) (HTM.out)) (one_int _ _) (by omega) (by unfold maxLen; omega) (by omega) HTP.out.lt _ rfl ?_
                intro gE cE wE ownE groE hatE hltE
                have HTE : Hid (XD w x s k m (o : Int) (.slice pa d.P.length pc) (.slice ea d.E.length ec) (.slice (some ⟨gP, 0, none⟩) (d.P.length + 1) cP) (.slice (some ⟨gE, 0, none⟩) (d.E.length + 1) cE) (.slice la d.L.length lc) (d.P ++ [0]) (d.E ++ [0]) d.L aj wE) := HTP.out.pushE ownE groE hatE
                have hS8 := (HCE.out _ _ _ _ _ _ _ HTE.out).2.2
                refine hK.out _ _ (fun _ => hS8) ?_
                clear hK K
                try simp only [Act.put, List.getElem_toArray, List.getElem_cons_succ, List.getElem_cons_zero, List.setIfInBounds_toArray, List.set_cons_zero, List.set_cons_succ]
                clear ownE groE hatE hltE ownP groP hatP hltP
                obtain ⟨z0, z1, z2, z3⟩ := HTE.out.cells
                have fz2 := HTE.out.frozen 2
                have fz3 := HTE.out.frozen 3
                refine Till.ready (rs := [11]) (by kernel_rfl) (by simp) ?_
                refine Ups.cons rfl (fun K hK => ?_) Ups.nil
                go_simp
                refine hK.out _ _ (fun h => Bool.noConfusion (Eq.trans (Eq.symm h) (by kernel_rfl : _ = true))) ?_
                clear hK K
                try simp only [Act.put, List.getElem_toArray, List.getElem_cons_succ, List.getElem_cons_zero, List.setIfInBounds_toArray, List.set_cons_zero, List.set_cons_succ]
                refine Till.ready (rs := [12]) (by kernel_rfl) (by simp) ?_
                refine Ups.cons rfl (fun K hK => ?_) Ups.nil
                go_simp
                refine hK.out _ _ (fun h => Bool.noConfusion (Eq.trans (Eq.symm h) (by kernel_rfl : _ = true))) ?_
                clear hK K
                try simp only [Act.put, List.getElem_toArray, List.getElem_cons_succ, List.getElem_cons_zero, List.setIfInBounds_toArray, List.set_cons_zero, List.set_cons_succ]
                refine Till.ready (rs := [13]) (by kernel_rfl) (by simp) ?_
                refine Ups.cons rfl (fun K hK => ?_) Ups.nil
                go_simp
                refine hK.out _ _ (fun h => Bool.noConfusion (Eq.trans (Eq.symm h) (by kernel_rfl : _ = true))) ?_
                clear hK K
                try simp only [Act.put, List.getElem_toArray, List.getElem_cons_succ, List.getElem_cons_zero, List.setIfInBounds_toArray, List.set_cons_zero, List.set_cons_succ]
                refine Till.done (by kernel_rfl) ?_
                clear z0 z1 z2 z3 fz2 fz3
                refine NoPanic.normal ?_
                --@z
                go_wp2_with fail
                go_loopw [14, 24] (fun s14 s24 wy => ∃ (c : Nat) (XX : List Int) (a3 : Nat) (vL : Value), c ≤ tt - f ∧ s24 = .int .i64 ((f + c : Nat) : Int) ∧ s14 = vL ∧ rdAll s 0 0 c a2 = some (XX, a3) ∧ XD w x s k m (o : Int) (.slice (some ⟨gP, 0, none⟩) (d.P.length + 1) cP) (.slice (some ⟨gE, 0, none⟩) (d.E.length + 1) cE) (.slice (some ⟨gP, 0, none⟩) (d.P.length + 1) cP) (.slice (some ⟨gE, 0, none⟩) (d.E.length + 1) cE) vL (d.P ++ [0]) (d.E ++ [0]) (d.L ++ XX) a3 wy) (fun _ s24 _ => tt - (intOf s24).toNat)
                case atStart => exact ⟨0, [], a2, _, Nat.zero_le _, by rw [Nat.add_zero], rfl, rfl, by rw [List.append_nil, ← haj]; exact HTE.out.set⟩
                case round =>
                  clear HTE HTP HTD
                  obtain ⟨c, XX, a3, vL, hc, rfl, rfl, hrx, hxd⟩ := hrel
                  obtain ⟨lb, ld, rfl⟩ := hxd.shapeL
                  have HX : Hid (XD w x s k m (o : Int) (.slice (some ⟨gP, 0, none⟩) (d.P.length + 1) cP) (.slice (some ⟨gE, 0, none⟩) (d.E.length + 1) cE) (.slice (some ⟨gP, 0, none⟩) (d.P.length + 1) cP) (.slice (some ⟨gE, 0, none⟩) (d.E.length + 1) cE) (.slice lb (d.L ++ XX).length ld) (d.P ++ [0]) (d.E ++ [0]) (d.L ++ XX) a3 wr) := hxd
                  clear hxd
                  have HRX : Hid (rdAll s 0 0 c a2 = some (XX, a3)) := hrx
                  have ha3 : a3 ≤ 8 * s.size := rdAll_le hrx ha2
                  have hlx := rdAll_len hrx
                  clear hrx
                  have hLLn : (d.L ++ XX).length ≤ 65535 := by rw [List.length_append, HLF.out, hlx]; omega
                  clear hlx
                  have hbx := rd_bound s a3 0 0 (by omega) (by omega)
                  generalize hLL : d.L ++ XX = LL at *
                  have HLL : Hid (d.L ++ XX = LL) := hLL
                  clear hLL
                  by_cases hcl : c < tt - f
                  · have hlt2 : f + c < tt := by omega
                    have HDN : Hid (¬ rdE s a3 0 0 = 0 → decP s a b r = none) := fun hne => HDPX.out (rdAll_none (tt - f) (rdAll_stop HRX.out hne) (by omega))
                    have HDO : Hid (rdE s a3 0 0 = 0 → rdAll s 0 0 (c + 1) a2 = some (XX ++ [rdV s a3 0 0], rdA s a3 0 0)) := fun h0 => rdAll_some HRX.out h0
                    clear HRX
                    generalize hfc : f + c = fc at *
                    have HFC : Hid (f + c = fc) := hfc
                    clear hfc
                    have e1 : rdE s a3 0 0 = 0 := by unfold rdE; rw [if_neg (by decide), if_pos rfl]
                    have e2 : rdV s a3 0 0 = 0 := by unfold rdV; rw [if_neg (by decide), if_pos rfl]
                    have e3 : rdA s a3 0 0 = a3 := by unfold rdA; rw [if_neg (by decide), if_pos rfl]
                    have HRN : Hid (rdAll s 0 0 (c + 1) a2 = some (XX ++ [0], a3)) := by have := HDO.out e1; rw [e2, e3] at this; exact this
                    clear HDO HDN e1 e2 e3 hbx
                    obtain ⟨a4, ha4⟩ : ∃ a4, a4 = a3 := ⟨_, rfl⟩
                    subst ha4
                    go_wp2_with (at_builtin; refine wpList_append_lies _ rfl (.tmp 170) (.tmp 172) 22 rfl (k + 1) 3 i3 (.int .i64 0) 1 8 undI3 h3a h3b h3c h3d rfl (by decide) (.slice lb LL.length ld) LL.length (intsC LL) rfl (HX.out.alloc _).oL ⟨wr.heap.size, 0, none⟩ 1 1 [.int .i64 0] rfl rfl (World.news_of_block (cs := #[.int .i64 0]) (t := 3) (fr := (0, 0)) (tmp_new wr _)) (one_int _ _) (by omega) (by unfold maxLen; omega) (by omega) (HX.out.alloc _).lt _ rfl ?_; intro gL cL wL ownL groL hatL hltL)
                    have HXL : Hid (XD w x s k m (o : Int) (.slice (some ⟨gP, 0, none⟩) (d.P.length + 1) cP) (.slice (some ⟨gE, 0, none⟩) (d.E.length + 1) cE) (.slice (some ⟨gP, 0, none⟩) (d.P.length + 1) cP) (.slice (some ⟨gE, 0, none⟩) (d.E.length + 1) cE) (.slice (some ⟨gL, 0, none⟩) (LL.length + 1) cL) (d.P ++ [0]) (d.E ++ [0]) (LL ++ [0]) a4 wL) := (HX.out.alloc _).pushL ownL groL hatL
                    clear ownL groL hatL hltL
                    go_wp2_with fail
                    go_roundw
                    case rel => exact ⟨c + 1, XX ++ [0], a4, _, by omega, by have := HFC.out; rw [← this]; go_num, rfl, HRN.out, by rw [← List.append_assoc, HLL.out]; exact HXL.out⟩
                    case measure => have := HFC.out; simp [intOf]; omega
                  · have hce : c = tt - f := by omega
                    subst hce
                    have HPN : Hid (rdParts s m b o r (i + 1) a1 = some ⟨d.L ++ XX, d.P ++ [0], d.E ++ [0], a3⟩) := HPX.out XX a3 HRX.out
                    have hft : f + (tt - f) = tt := by omega
                    go_wp2_with fail
                    go_roundw
                    case rel => exact ⟨i + 1, ⟨d.L ++ XX, d.P ++ [0], d.E ++ [0], a3⟩, _, _, _, by omega, rfl, by go_num, HPN.out, by show XD _ _ _ _ _ _ _ _ _ _ _ _ _ (d.L ++ XX) _ _; rw [HLL.out]; exact HX.out⟩
                    case measure => simp [intOf]; omega
                --@/z


            · have hpos : 0 < ev := by omega
              obtain ⟨wz, hwz⟩ : ∃ wz, wz = w6 := ⟨_, rfl⟩
              subst hwz
              have HTD : Hid (XD w x s k m (o : Int) (.slice pa d.P.length pc) (.slice ea d.E.length ec) (.slice pa d.P.length pc) (.slice ea d.E.length ec) (.slice la d.L.length lc) d.P d.E d.L aj wz.drew) := HXJ.out.drew
              obtain ⟨y0, y1, y2, y3⟩ := HXJ.out.cells
              have HCE : Hid (∀ b2 b3 vP vE P E wx, XD w x s k m (o : Int) b2 b3 vP vE (.slice la d.L.length lc) P E d.L aj wx → wx.cell? ⟨k, 0, none⟩ = some (.int .i64 m) ∧ wx.cell? ⟨k, 1, none⟩ = some (.int .i64 (o : Int)) ∧ wx.cell? ⟨k, 2, none⟩ = some b2 ∧ wx.cell? ⟨k, 3, none⟩ = some b3) := fun _ _ _ _ _ _ _ h => h.cells
              have HPX : Hid (∀ XX a3, rdAll s 0 ev (tt - f) a2 = some (XX, a3) → rdParts s m b o r (i + 1) a1 = some ⟨d.L ++ XX, d.P ++ [0], d.E ++ [ev], a3⟩) := fun XX a3 h => HPS.out 0 ev a2 XX a3 HRH.out h
              have HDPX : Hid (rdAll s 0 ev (tt - f) a2 = none → decP s a b r = none) := fun h => HPF.out 0 ev a2 HRH.out h
              clear HXJ HPS HPF
              go_wp2_with fail
              refine wp_region_noPanic ?_
              refine Till.begin (n := 11) (S := fun wx => wx.cell? ⟨k, 2, none⟩ = some (.slice pa d.P.length pc) ∧ wx.cell? ⟨k, 3, none⟩ = some (.slice ea d.E.length ec)) (by kernel_rfl) (HCE.out _ _ _ _ _ _ _ HTD.out).2.2 (fun hS => ?_)
              refine Till.take (i := 0) (v := .pointer (some ⟨k, 2, none⟩)) rfl (by kernel_rfl) (by kernel_rfl) (by kernel_rfl) (fun _ _ _ h => h) (by decide) (Waits.of (by kernel_rfl)) (by kernel_rfl) (Or.inl ⟨by rfl, fun w hSw => by (obtain ⟨s2, s3⟩ := hSw; go_simp)⟩) hS ?_
              try simp only [Act.put, List.getElem_toArray, List.getElem_cons_succ, List.getElem_cons_zero, List.setIfInBounds_toArray, List.set_cons_zero, List.set_cons_succ]
              refine Till.take (i := 1) (v := (.slice pa d.P.length pc)) rfl (by kernel_rfl) (by kernel_rfl) (by kernel_rfl) (fun _ _ _ h => h) (by decide) (Waits.of (by kernel_rfl)) (by kernel_rfl) (Or.inl ⟨by rfl, fun w hSw => by (obtain ⟨s2, s3⟩ := hSw; go_simp)⟩) hS ?_
              try simp only [Act.put, List.getElem_toArray, List.getElem_cons_succ, List.getElem_cons_zero, List.setIfInBounds_toArray, List.set_cons_zero, List.set_cons_succ]
              refine Till.take (i := 2) (v := .int .i64 0) rfl (by kernel_rfl) (by kernel_rfl) (by kernel_rfl) (fun _ _ _ h => h) (by decide) (Waits.of (by kernel_rfl)) (by kernel_rfl) (Or.inl ⟨by rfl, fun w hSw => by (obtain ⟨s2, s3⟩ := hSw; go_simp)⟩) hS ?_
              try simp only [Act.put, List.getElem_toArray, List.getElem_cons_succ, List.getElem_cons_zero, List.setIfInBounds_toArray, List.set_cons_zero, List.set_cons_succ]
              refine Till.take (i := 5) (v := .pointer (some ⟨k, 3, none⟩)) rfl (by kernel_rfl) (by kernel_rfl) (by kernel_rfl) (fun _ _ _ h => h) (by decide) (Waits.of (by kernel_rfl)) (by kernel_rfl) (Or.inl ⟨by rfl, fun w hSw => by (obtain ⟨s2, s3⟩ := hSw; go_simp)⟩) hS ?_
              try simp only [Act.put, List.getElem_toArray, List.getElem_cons_succ, List.getElem_cons_zero, List.setIfInBounds_toArray, List.set_cons_zero, List.set_cons_succ]
              refine Till.take (i := 6) (v := (.slice ea d.E.length ec)) rfl (by kernel_rfl) (by kernel_rfl) (by kernel_rfl) (fun _ _ _ h => h) (by decide) (Waits.of (by kernel_rfl)) (by kernel_rfl) (Or.inl ⟨by rfl, fun w hSw => by (obtain ⟨s2, s3⟩ := hSw; go_simp)⟩) hS ?_
              try simp only [Act.put, List.getElem_toArray, List.getElem_cons_succ, List.getElem_cons_zero, List.setIfInBounds_toArray, List.set_cons_zero, List.set_cons_succ]
              refine Till.takeP (i := 7) (v := .int .i64 ev) rfl (by kernel_rfl) (by kernel_rfl) (by kernel_rfl) (fun _ _ _ h => h) (by decide) (Or.inl ⟨by rfl, fun w _ => by go_simp⟩) hS ?_
              try simp only [Act.put, List.getElem_toArray, List.getElem_cons_succ, List.getElem_cons_zero, List.setIfInBounds_toArray, List.set_cons_zero, List.set_cons_succ]
              refine Till.ready (rs := [3, 8]) (by kernel_rfl) (by simp) ?_
              refine Ups.cons rfl (fun K hK => ?_) ?_
              · go_simp
                have hS3 := (HCE.out _ _ _ _ _ _ _ (HTD.out.alloc (.cells #[.int .i64 0] 3))).2.2
                refine hK.out _ _ (fun _ => hS3) ?_
                clear hK K
                try simp only [Act.put, List.getElem_toArray, List.getElem_cons_succ, List.getElem_cons_zero, List.setIfInBounds_toArray, List.set_cons_zero, List.set_cons_succ]
                refine Till.ready (rs := [4, 8]) (by kernel_rfl) (by simp) ?_
                refine Ups.cons rfl (fun K hK => ?_) ?_
                · refine step_append_lies _ (by rfl) _ _ _ (by rfl) (k + 1) 3 i3 (.int .i64 0) 1 8 undI3 h3a h3b h3c h3d rfl (by omega) (.slice pa d.P.length pc) d.P.length (intsC d.P) (by rfl) ((HTD.out.alloc (.cells #[.int .i64 0] 3)).oP) ⟨wz.heap.size, 0, none⟩ 1 1 [.int .i64 0] (by rfl) (by rfl) (World.news_of_block (cs := #[.int .i64 0]) (t := 3) (fr := (0, 0)) (tmp_new wz.drew _)) (one_int _ _) (by omega) (by unfold maxLen; omega) (by omega) ((HTD.out.alloc (.cells #[.int .i64 0] 3)).lt) _ rfl ?_
                  intro gP cP wP ownP groP hatP hltP
                  have HTP : Hid (XD w x s k m (o : Int) (.slice pa d.P.length pc) (.slice ea d.E.length ec) (.slice (some ⟨gP, 0, none⟩) (d.P.length + 1) cP) (.slice ea d.E.length ec) (.slice la d.L.length lc) (d.P ++ [0]) d.E d.L aj wP) := (HTD.out.alloc (.cells #[.int .i64 0] 3)).pushP ownP groP hatP
                  have hS4 := (HCE.out _ _ _ _ _ _ _ HTP.out).2.2
                  refine hK.out _ _ (fun _ => hS4) ?_
                  clear hK K
                  try simp only [Act.put, List.getElem_toArray, List.getElem_cons_succ, List.getElem_cons_zero, List.setIfInBounds_toArray, List.set_cons_zero, List.set_cons_succ]
                  refine Till.take (i := 10) (v := .pointer (some ⟨k, 2, none⟩)) rfl (by kernel_rfl) (by kernel_rfl) (by kernel_rfl) (fun _ _ _ h => h) (by decide) (Waits.of (by kernel_rfl)) (by kernel_rfl) (Or.inl ⟨by rfl, fun w hSw => by (obtain ⟨s2, s3⟩ := hSw; go_simp)⟩) hS4 ?_
                  try simp only [Act.put, List.getElem_toArray, List.getElem_cons_succ, List.getElem_cons_zero, List.setIfInBounds_toArray, List.set_cons_zero, List.set_cons_succ]
                  refine Till.ready (rs := [8]) (by kernel_rfl) (by simp) ?_
                  refine Ups.cons rfl (fun K hK => ?_) Ups.nil
                  go_simp
                  have hS7 := (HCE.out _ _ _ _ _ _ _ (HTP.out.alloc (.cells #[.int .i64 ev] 3))).2.2
                  refine hK.out _ _ (fun _ => hS7) ?_
                  clear hK K
                  try simp only [Act.put, List.getElem_toArray, List.getElem_cons_succ, List.getElem_cons_zero, List.setIfInBounds_toArray, List.set_cons_zero, List.set_cons_succ]
                  refine Till.ready (rs := [9]) (by kernel_rfl) (by simp) ?_
                  refine Ups.cons rfl (fun K hK => ?_) Ups.nil
                  refine step_append_lies _ (by rfl) _ _ _ (by rfl) (k + 1) 3 i3 (.int .i64 0) 1 8 undI3 h3a h3b h3c h3d rfl (by omega) (.slice ea d.E.length ec) d.E.length (intsC d.E) (by rfl) ((HTP.out.alloc (.cells #[.int .i64 ev] 3)).oE) ⟨wP.heap.size, 0, none⟩ 1 1 [.int .i64 ev] (by rfl) (by rfl) (World.news_of_block (cs := #[.int .i64 ev]) (t := 3) (fr := (0, 0)) (tmp_new wP _)) (one_int _ _) (by omega) (by unfold maxLen; omega) (by omega) ((HTP.out.alloc (.cells #[.int .i64 ev] 3)).lt) _ rfl ?_
                  intro gE cE wE ownE groE hatE hltE
                  have HTE : Hid (XD w x s k m (o : Int) (.slice pa d.P.length pc) (.slice ea d.E.length ec) (.slice (some ⟨gP, 0, none⟩) (d.P.length + 1) cP) (.slice (some ⟨gE, 0, none⟩) (d.E.length + 1) cE) (.slice la d.L.length lc) (d.P ++ [0]) (d.E ++ [ev]) d.L aj wE) := (HTP.out.alloc (.cells #[.int .i64 ev] 3)).pushE ownE groE hatE
                  have hS8 := (HCE.out _ _ _ _ _ _ _ HTE.out).2.2
                  refine hK.out _ _ (fun _ => hS8) ?_
                  clear hK K
                  try simp only [Act.put, List.getElem_toArray, List.getElem_cons_succ, List.getElem_cons_zero, List.setIfInBounds_toArray, List.set_cons_zero, List.set_cons_succ]
                  clear ownE groE hatE hltE ownP groP hatP hltP
                  obtain ⟨z0, z1, z2, z3⟩ := HTE.out.cells
                  have fz2 := HTE.out.frozen 2
                  have fz3 := HTE.out.frozen 3
                  refine Till.ready (rs := [11]) (by kernel_rfl) (by simp) ?_
                  refine Ups.cons rfl (fun K hK => ?_) Ups.nil
                  go_simp
                  refine hK.out _ _ (fun h => Bool.noConfusion (Eq.trans (Eq.symm h) (by kernel_rfl : _ = true))) ?_
                  clear hK K
                  try simp only [Act.put, List.getElem_toArray, List.getElem_cons_succ, List.getElem_cons_zero, List.setIfInBounds_toArray, List.set_cons_zero, List.set_cons_succ]
                  refine Till.ready (rs := [12]) (by kernel_rfl) (by simp) ?_
                  refine Ups.cons rfl (fun K hK => ?_) Ups.nil
                  go_simp
                  refine hK.out _ _ (fun h => Bool.noConfusion (Eq.trans (Eq.symm h) (by kernel_rfl : _ = true))) ?_
                  clear hK K
                  try simp only [Act.put, List.getElem_toArray, List.getElem_cons_succ, List.getElem_cons_zero, List.setIfInBounds_toArray, List.set_cons_zero, List.set_cons_succ]
                  refine Till.ready (rs := [13]) (by kernel_rfl) (by simp) ?_
                  refine Ups.cons rfl (fun K hK => ?_) Ups.nil
                  go_simp
                  refine hK.out _ _ (fun h => Bool.noConfusion (Eq.trans (Eq.symm h) (by kernel_rfl : _ = true))) ?_
                  clear hK K
                  try simp only [Act.put, List.getElem_toArray, List.getElem_cons_succ, List.getElem_cons_zero, List.setIfInBounds_toArray, List.set_cons_zero, List.set_cons_succ]
                  refine Till.done (by kernel_rfl) ?_
                  clear z0 z1 z2 z3 fz2 fz3
                  refine NoPanic.normal ?_
                  --@s
                  go_wp2_with fail
                  go_loopw [14, 24] (fun s14 s24 wy => ∃ (c : Nat) (XX : List Int) (a3 : Nat) (vL : Value), c ≤ tt - f ∧ s24 = .int .i64 ((f + c : Nat) : Int) ∧ s14 = vL ∧ rdAll s 0 ev c a2 = some (XX, a3) ∧ XD w x s k m (o : Int) (.slice (some ⟨gP, 0, none⟩) (d.P.length + 1) cP) (.slice (some ⟨gE, 0, none⟩) (d.E.length + 1) cE) (.slice (some ⟨gP, 0, none⟩) (d.P.length + 1) cP) (.slice (some ⟨gE, 0, none⟩) (d.E.length + 1) cE) vL (d.P ++ [0]) (d.E ++ [ev]) (d.L ++ XX) a3 wy) (fun _ s24 _ => tt - (intOf s24).toNat)
                  case atStart => exact ⟨0, [], a2, _, Nat.zero_le _, by rw [Nat.add_zero], rfl, rfl, by rw [List.append_nil, ← haj]; exact HTE.out.set⟩
                  case round =>
                    clear HTE HTP HTD
                    obtain ⟨c, XX, a3, vL, hc, rfl, rfl, hrx, hxd⟩ := hrel
                    obtain ⟨lb, ld, rfl⟩ := hxd.shapeL
                    have HX : Hid (XD w x s k m (o : Int) (.slice (some ⟨gP, 0, none⟩) (d.P.length + 1) cP) (.slice (some ⟨gE, 0, none⟩) (d.E.length + 1) cE) (.slice (some ⟨gP, 0, none⟩) (d.P.length + 1) cP) (.slice (some ⟨gE, 0, none⟩) (d.E.length + 1) cE) (.slice lb (d.L ++ XX).length ld) (d.P ++ [0]) (d.E ++ [ev]) (d.L ++ XX) a3 wr) := hxd
                    clear hxd
                    have HRX : Hid (rdAll s 0 ev c a2 = some (XX, a3)) := hrx
                    have ha3 : a3 ≤ 8 * s.size := rdAll_le hrx ha2
                    have hlx := rdAll_len hrx
                    clear hrx
                    have hLLn : (d.L ++ XX).length ≤ 65535 := by rw [List.length_append, HLF.out, hlx]; omega
                    clear hlx
                    have hbx := rd_bound s a3 0 ev (by omega) (by omega)
                    generalize hLL : d.L ++ XX = LL at *
                    have HLL : Hid (d.L ++ XX = LL) := hLL
                    clear hLL
                    by_cases hcl : c < tt - f
                    · have hlt2 : f + c < tt := by omega
                      have HDN : Hid (¬ rdE s a3 0 ev = 0 → decP s a b r = none) := fun hne => HDPX.out (rdAll_none (tt - f) (rdAll_stop HRX.out hne) (by omega))
                      have HDO : Hid (rdE s a3 0 ev = 0 → rdAll s 0 ev (c + 1) a2 = some (XX ++ [rdV s a3 0 ev], rdA s a3 0 ev)) := fun h0 => rdAll_some HRX.out h0
                      clear HRX
                      generalize hfc : f + c = fc at *
                      have HFC : Hid (f + c = fc) := hfc
                      clear hfc
                      have kr := refsigned_all s hs a3 ha3 wr x ev (by omega) HX.out.rd
                      have e1 : rdE s a3 0 ev = (sgnE s a3 ev) := by unfold rdE; rw [if_neg (by omega), if_neg (by omega)]
                      have e2 : rdV s a3 0 ev = (sgnV s a3 ev) := by unfold rdV; rw [if_neg (by omega), if_neg (by omega)]
                      have e3 : rdA s a3 0 ev = (sgnA s a3 ev) := by unfold rdA; rw [if_neg (by omega), if_neg (by omega)]
                      rw [← e1, ← e2, ← e3] at kr
                      clear e1 e2 e3
                      generalize hre : rdE s a3 0 ev = er at *
                      generalize hrv : rdV s a3 0 ev = vr at *
                      generalize hra : rdA s a3 0 ev = a4 at *
                      clear hre hrv hra
                      go_wp2_with fail
                      refine kr.mono ?_
                      rintro e w5 ⟨rfl, h5, h5s⟩
                      have HX5 : Hid (XD w x s k m (o : Int) (.slice (some ⟨gP, 0, none⟩) (d.P.length + 1) cP) (.slice (some ⟨gE, 0, none⟩) (d.E.length + 1) cE) (.slice (some ⟨gP, 0, none⟩) (d.P.length + 1) cP) (.slice (some ⟨gE, 0, none⟩) (d.E.length + 1) cE) (.slice lb LL.length ld) (d.P ++ [0]) (d.E ++ [ev]) LL a4 w5) := HX.out.read h5 h5s
                      clear h5 h5s kr HX
                      by_cases h0 : er = 0
                      · have HRN : Hid (rdAll s 0 ev (c + 1) a2 = some (XX ++ [vr], a4)) := HDO.out h0
                        subst h0
                        clear HDO HDN
                        go_wp2_with (at_builtin; refine wpList_append_lies _ rfl (.tmp 170) (.tmp 172) 22 rfl (k + 1) 3 i3 (.int .i64 0) 1 8 undI3 h3a h3b h3c h3d rfl (by decide) (.slice lb LL.length ld) LL.length (intsC LL) rfl (HX5.out.alloc _).oL ⟨w5.heap.size, 0, none⟩ 1 1 [.int .i64 vr] rfl rfl (World.news_of_block (cs := #[.int .i64 vr]) (t := 3) (fr := (0, 0)) (tmp_new w5 _)) (one_int _ _) (by omega) (by unfold maxLen; omega) (by omega) (HX5.out.alloc _).lt _ rfl ?_; intro gL cL wL ownL groL hatL hltL)
                        have HXL : Hid (XD w x s k m (o : Int) (.slice (some ⟨gP, 0, none⟩) (d.P.length + 1) cP) (.slice (some ⟨gE, 0, none⟩) (d.E.length + 1) cE) (.slice (some ⟨gP, 0, none⟩) (d.P.length + 1) cP) (.slice (some ⟨gE, 0, none⟩) (d.E.length + 1) cE) (.slice (some ⟨gL, 0, none⟩) (LL.length + 1) cL) (d.P ++ [0]) (d.E ++ [ev]) (LL ++ [vr]) a4 wL) := (HX5.out.alloc _).pushL ownL groL hatL
                        clear ownL groL hatL hltL
                        go_wp2_with fail
                        go_roundw
                        case rel => exact ⟨c + 1, XX ++ [vr], a4, _, by omega, by have := HFC.out; rw [← this]; go_num, rfl, HRN.out, by rw [← List.append_assoc, HLL.out]; exact HXL.out⟩
                        case measure => have := HFC.out; simp [intOf]; omega
                      · have hne : (er != 0) = true := by rw [bne_iff_ne]; exact h0
                        have HNO : Hid (decP s a b r = none) := HDN.out h0
                        clear HDO HDN
                        have hxr := HX5.out.rb
                        have u0 : w5.cell? ⟨w.heap.size, 0, none⟩ = some (.int .i64 0) := by rw [cell_of_row _ _ _ _ _ _ hxr]; rfl
                        have fu0 : w5.frozen? ⟨w.heap.size, 0, none⟩ = false := by simp [World.frozen?, hxr]
                        have u1 : w5.cell? ⟨w.heap.size, 1, none⟩ = some (.int .i64 0) := by rw [cell_of_row _ _ _ _ _ _ hxr]; rfl
                        have fu1 : w5.frozen? ⟨w.heap.size, 1, none⟩ = false := by simp [World.frozen?, hxr]
                        have u2 : w5.cell? ⟨w.heap.size, 2, none⟩ = some (.slice none 0 0) := by rw [cell_of_row _ _ _ _ _ _ hxr]; rfl
                        have fu2 : w5.frozen? ⟨w.heap.size, 2, none⟩ = false := by simp [World.frozen?, hxr]
                        have u3 : w5.cell? ⟨w.heap.size, 3, none⟩ = some (.slice none 0 0) := by rw [cell_of_row _ _ _ _ _ _ hxr]; rfl
                        have fu3 : w5.frozen? ⟨w.heap.size, 3, none⟩ = false := by simp [World.frozen?, hxr]
                        clear hxr
                        go_wp2_with fail
                        generalize hwf : World.setCell _ _ _ = wf
                        have hH : wf.heap[w.heap.size]? = some (.cells #[.int .i64 0, .int .i64 0, .slice none 0 0, .slice none 0 0] 24 (0, 0)) := by rw [← hwf]; exact set4_a _ _ _ _ _ HX5.out.rb
                        have hS : Stays (only x) w wf := by rw [← hwf]; exact set4_c _ _ _ _ _ _ _ (Nat.le_refl _) HX5.out.st
                        refine bodyPost_ret (v := .tuple #[.slice none 0 0, zRice, .int .i64 2]) ?_ rfl (DPost.none_ HNO.out ⟨rfl, hS⟩)
                        rw [results_mid rfl]
                        have hl0 := run_loadVar_row (P := Try.prog) wf (w.heap.size) 24 24 #[.int .i64 0, .int .i64 0, .slice none 0 0, .slice none 0 0] (0, 0) _ hH Try.underlying24 rfl info_Rice
                        simp [asAddr, Result.andThen, hl0]
                    · have hce : c = tt - f := by omega
                      subst hce
                      have HPN : Hid (rdParts s m b o r (i + 1) a1 = some ⟨d.L ++ XX, d.P ++ [0], d.E ++ [ev], a3⟩) := HPX.out XX a3 HRX.out
                      have hft : f + (tt - f) = tt := by omega
                      go_wp2_with fail
                      go_roundw
                      case rel => exact ⟨i + 1, ⟨d.L ++ XX, d.P ++ [0], d.E ++ [ev], a3⟩, _, _, _, by omega, rfl, by go_num, HPN.out, by show XD _ _ _ _ _ _ _ _ _ _ _ _ _ (d.L ++ XX) _ _; rw [HLL.out]; exact HX.out⟩
                      case measure => simp [intOf]; omega
                  --@/s

                · refine Ups.cons rfl (fun K hK => ?_) Ups.nil
                  go_simp
                  have hS7 := (HCE.out _ _ _ _ _ _ _ ((HTD.out.alloc (.cells #[.int .i64 0] 3)).alloc (.cells #[.int .i64 ev] 3))).2.2
                  refine hK.out _ _ (fun _ => hS7) ?_
                  clear hK K
                  try simp only [Act.put, List.getElem_toArray, List.getElem_cons_succ, List.getElem_cons_zero, List.setIfInBounds_toArray, List.set_cons_zero, List.set_cons_succ]
                  refine Till.ready (rs := [4]) (by kernel_rfl) (by simp) ?_
                  refine Ups.cons rfl (fun K hK => ?_) Ups.nil
                  refine step_append_lies _ (by rfl) _ _ _ (by rfl) (k + 1) 3 i3 (.int .i64 0) 1 8 undI3 h3a h3b h3c h3d rfl (by omega) (.slice pa d.P.length pc) d.P.length (intsC d.P) (by rfl) (((HTD.out.alloc (.cells #[.int .i64 0] 3)).alloc (.cells #[.int .i64 ev] 3)).oP) ⟨wz.heap.size, 0, none⟩ 1 1 [.int .i64 0] (by rfl) (by rfl) (World.news_of_block (cs := #[.int .i64 0]) (t := 3) (fr := (0, 0)) (tmp_old wz.drew _ _)) (one_int _ _) (by omega) (by unfold maxLen; omega) (by omega) (((HTD.out.alloc (.cells #[.int .i64 0] 3)).alloc (.cells #[.int .i64 ev] 3)).lt) _ rfl ?_
                  intro gP cP wP ownP groP hatP hltP
                  have HTP : Hid (XD w x s k m (o : Int) (.slice pa d.P.length pc) (.slice ea d.E.length ec) (.slice (some ⟨gP, 0, none⟩) (d.P.length + 1) cP) (.slice ea d.E.length ec) (.slice la d.L.length lc) (d.P ++ [0]) d.E d.L aj wP) := ((HTD.out.alloc (.cells #[.int .i64 0] 3)).alloc (.cells #[.int .i64 ev] 3)).pushP ownP groP hatP
                  have HTM : Hid (wP.heap[wz.heap.size + 1]? = some (.cells #[.int .i64 ev] 3 (0, 0))) := tmp_kept groP (tmp_next wz.drew _ _) (fun e => by have h9 := (HTD.out.oP.lt _ e).2; have h8 : wz.drew.heap.size = wz.heap.size := rfl; omega)
                  have hS4 := (HCE.out _ _ _ _ _ _ _ HTP.out).2.2
                  refine hK.out _ _ (fun _ => hS4) ?_
                  clear hK K
                  try simp only [Act.put, List.getElem_toArray, List.getElem_cons_succ, List.getElem_cons_zero, List.setIfInBounds_toArray, List.set_cons_zero, List.set_cons_succ]
                  refine Till.take (i := 10) (v := .pointer (some ⟨k, 2, none⟩)) rfl (by kernel_rfl) (by kernel_rfl) (by kernel_rfl) (fun _ _ _ h => h) (by decide) (Waits.of (by kernel_rfl)) (by kernel_rfl) (Or.inl ⟨by rfl, fun w hSw => by (obtain ⟨s2, s3⟩ := hSw; go_simp)⟩) hS4 ?_
                  try simp only [Act.put, List.getElem_toArray, List.getElem_cons_succ, List.getElem_cons_zero, List.setIfInBounds_toArray, List.set_cons_zero, List.set_cons_succ]
                  refine Till.ready (rs := [9]) (by kernel_rfl) (by simp) ?_
                  refine Ups.cons rfl (fun K hK => ?_) Ups.nil
                  refine step_append_lies _ (by rfl) _ _ _ (by rfl) (k + 1) 3 i3 (.int .i64 0) 1 8 undI3 h3a h3b h3c h3d rfl (by omega) (.slice ea d.E.length ec) d.E.length (intsC d.E) (by rfl) HTP.out.oE ⟨wz.heap.size + 1, 0, none⟩ 1 1 [.int .i64 ev] (by rfl) (by rfl) (World.news_of_block (cs := #[.int .i64 ev]) (t := 3) (fr := (0, 0)) (HTM.out)) (one_int _ _) (by omega) (by unfold maxLen; omega) (by omega) HTP.out.lt _ rfl ?_
                  intro gE cE wE ownE groE hatE hltE
                  have HTE : Hid (XD w x s k m (o : Int) (.slice pa d.P.length pc) (.slice ea d.E.length ec) (.slice (some ⟨gP, 0, none⟩) (d.P.length + 1) cP) (.slice (some ⟨gE, 0, none⟩) (d.E.length + 1) cE) (.slice la d.L.length lc) (d.P ++ [0]) (d.E ++ [ev]) d.L aj wE) := HTP.out.pushE ownE groE hatE
                  have hS8 := (HCE.out _ _ _ _ _ _ _ HTE.out).2.2
                  refine hK.out _ _ (fun _ => hS8) ?_
                  clear hK K
                  try simp only [Act.put, List.getElem_toArray, List.getElem_cons_succ, List.getElem_cons_zero, List.setIfInBounds_toArray, List.set_cons_zero, List.set_cons_succ]
                  clear ownE groE hatE hltE ownP groP hatP hltP
                  obtain ⟨z0, z1, z2, z3⟩ := HTE.out.cells
                  have fz2 := HTE.out.frozen 2
                  have fz3 := HTE.out.frozen 3
                  refine Till.ready (rs := [11]) (by kernel_rfl) (by simp) ?_
                  refine Ups.cons rfl (fun K hK => ?_) Ups.nil
                  go_simp
                  refine hK.out _ _ (fun h => Bool.noConfusion (Eq.trans (Eq.symm h) (by kernel_rfl : _ = true))) ?_
                  clear hK K
                  try simp only [Act.put, List.getElem_toArray, List.getElem_cons_succ, List.getElem_cons_zero, List.setIfInBounds_toArray, List.set_cons_zero, List.set_cons_succ]
                  refine Till.ready (rs := [12]) (by kernel_rfl) (by simp) ?_
                  refine Ups.cons rfl (fun K hK => ?_) Ups.nil
                  go_simp
                  refine hK.out _ _ (fun h => Bool.noConfusion (Eq.trans (Eq.symm h) (by kernel_rfl : _ = true))) ?_
                  clear hK K
                  try simp only [Act.put, List.getElem_toArray, List.getElem_cons_succ, List.getElem_cons_zero, List.setIfInBounds_toArray, List.set_cons_zero, List.set_cons_succ]
                  refine Till.ready (rs := [13]) (by kernel_rfl) (by simp) ?_
                  refine Ups.cons rfl (fun K hK => ?_) Ups.nil
                  go_simp
                  refine hK.out _ _ (fun h => Bool.noConfusion (Eq.trans (Eq.symm h) (by kernel_rfl : _ = true))) ?_
                  clear hK K
                  try simp only [Act.put, List.getElem_toArray, List.getElem_cons_succ, List.getElem_cons_zero, List.setIfInBounds_toArray, List.set_cons_zero, List.set_cons_succ]
                  refine Till.done (by kernel_rfl) ?_
                  clear z0 z1 z2 z3 fz2 fz3
                  refine NoPanic.normal ?_
                  --@s
                  go_wp2_with fail
                  go_loopw [14, 24] (fun s14 s24 wy => ∃ (c : Nat) (XX : List Int) (a3 : Nat) (vL : Value), c ≤ tt - f ∧ s24 = .int .i64 ((f + c : Nat) : Int) ∧ s14 = vL ∧ rdAll s 0 ev c a2 = some (XX, a3) ∧ XD w x s k m (o : Int) (.slice (some ⟨gP, 0, none⟩) (d.P.length + 1) cP) (.slice (some ⟨gE, 0, none⟩) (d.E.length + 1) cE) (.slice (some ⟨gP, 0, none⟩) (d.P.length + 1) cP) (.slice (some ⟨gE, 0, none⟩) (d.E.length + 1) cE) vL (d.P ++ [0]) (d.E ++ [ev]) (d.L ++ XX) a3 wy) (fun _ s24 _ => tt - (intOf s24).toNat)
                  case atStart => exact ⟨0, [], a2, _, Nat.zero_le _, by rw [Nat.add_zero], rfl, rfl, by rw [List.append_nil, ← haj]; exact HTE.out.set⟩
                  case round =>
                    clear HTE HTP HTD
                    obtain ⟨c, XX, a3, vL, hc, rfl, rfl, hrx, hxd⟩ := hrel
                    obtain ⟨lb, ld, rfl⟩ := hxd.shapeL
                    have HX : Hid (XD w x s k m (o : Int) (.slice (some ⟨gP, 0, none⟩) (d.P.length + 1) cP) (.slice (some ⟨gE, 0, none⟩) (d.E.length + 1) cE) (.slice (some ⟨gP, 0, none⟩) (d.P.length + 1) cP) (.slice (some ⟨gE, 0, none⟩) (d.E.length + 1) cE) (.slice lb (d.L ++ XX).length ld) (d.P ++ [0]) (d.E ++ [ev]) (d.L ++ XX) a3 wr) := hxd
                    clear hxd
                    have HRX : Hid (rdAll s 0 ev c a2 = some (XX, a3)) := hrx
                    have ha3 : a3 ≤ 8 * s.size := rdAll_le hrx ha2
                    have hlx := rdAll_len hrx
                    clear hrx
                    have hLLn : (d.L ++ XX).length ≤ 65535 := by rw [List.length_append, HLF.out, hlx]; omega
                    clear hlx
                    have hbx := rd_bound s a3 0 ev (by omega) (by omega)
                    generalize hLL : d.L ++ XX = LL at *
                    have HLL : Hid (d.L ++ XX = LL) := hLL
                    clear hLL
                    by_cases hcl : c < tt - f
                    · have hlt2 : f + c < tt := by omega
                      have HDN : Hid (¬ rdE s a3 0 ev = 0 → decP s a b r = none) := fun hne => HDPX.out (rdAll_none (tt - f) (rdAll_stop HRX.out hne) (by omega))
                      have HDO : Hid (rdE s a3 0 ev = 0 → rdAll s 0 ev (c + 1) a2 = some (XX ++ [rdV s a3 0 ev], rdA s a3 0 ev)) := fun h0 => rdAll_some HRX.out h0
                      clear HRX
                      generalize hfc : f + c = fc at *
                      have HFC : Hid (f + c = fc) := hfc
                      clear hfc
                      have kr := refsigned_all s hs a3 ha3 wr x ev (by omega) HX.out.rd
                      have e1 : rdE s a3 0 ev = (sgnE s a3 ev) := by unfold rdE; rw [if_neg (by omega), if_neg (by omega)]
                      have e2 : rdV s a3 0 ev = (sgnV s a3 ev) := by unfold rdV; rw [if_neg (by omega), if_neg (by omega)]
                      have e3 : rdA s a3 0 ev = (sgnA s a3 ev) := by unfold rdA; rw [if_neg (by omega), if_neg (by omega)]
                      rw [← e1, ← e2, ← e3] at kr
                      clear e1 e2 e3
                      generalize hre : rdE s a3 0 ev = er at *
                      generalize hrv : rdV s a3 0 ev = vr at *
                      generalize hra : rdA s a3 0 ev = a4 at *
                      clear hre hrv hra
                      go_wp2_with fail
                      refine kr.mono ?_
                      rintro e w5 ⟨rfl, h5, h5s⟩
                      have HX5 : Hid (XD w x s k m (o : Int) (.slice (some ⟨gP, 0, none⟩) (d.P.length + 1) cP) (.slice (some ⟨gE, 0, none⟩) (d.E.length + 1) cE) (.slice (some ⟨gP, 0, none⟩) (d.P.length + 1) cP) (.slice (some ⟨gE, 0, none⟩) (d.E.length + 1) cE) (.slice lb LL.length ld) (d.P ++ [0]) (d.E ++ [ev]) LL a4 w5) := HX.out.read h5 h5s
                      clear h5 h5s kr HX
                      by_cases h0 : er = 0
                      · have HRN : Hid (rdAll s 0 ev (c + 1) a2 = some (XX ++ [vr], a4)) := HDO.out h0
                        subst h0
                        clear HDO HDN
                        go_wp2_with (at_builtin; refine wpList_append_lies _ rfl (.tmp 170) (.tmp 172) 22 rfl (k + 1) 3 i3 (.int .i64 0) 1 8 undI3 h3a h3b h3c h3d rfl (by decide) (.slice lb LL.length ld) LL.length (intsC LL) rfl (HX5.out.alloc _).oL ⟨w5.heap.size, 0, none⟩ 1 1 [.int .i64 vr] rfl rfl (World.news_of_block (cs := #[.int .i64 vr]) (t := 3) (fr := (0, 0)) (tmp_new w5 _)) (one_int _ _) (by omega) (by unfold maxLen; omega) (by omega) (HX5.out.alloc _).lt _ rfl ?_; intro gL cL wL ownL groL hatL hltL)
                        have HXL : Hid (XD w x s k m (o : Int) (.slice (some ⟨gP, 0, none⟩) (d.P.length + 1) cP) (.slice (some ⟨gE, 0, none⟩) (d.E.length + 1) cE) (.slice (some ⟨gP, 0, none⟩) (d.P.length + 1) cP) (.slice (some ⟨gE, 0, none⟩) (d.E.length + 1) cE) (.slice (some ⟨gL, 0, none⟩) (LL.length + 1) cL) (d.P ++ [0]) (d.E ++ [ev]) (LL ++ [vr]) a4 wL) := (HX5.out.alloc _).pushL ownL groL hatL
                        clear ownL groL hatL hltL
                        go_wp2_with fail
                        go_roundw
                        case rel => exact ⟨c + 1, XX ++ [vr], a4, _, by omega, by have := HFC.out; rw [← this]; go_num, rfl, HRN.out, by rw [← List.append_assoc, HLL.out]; exact HXL.out⟩
                        case measure => have := HFC.out; simp [intOf]; omega
                      · have hne : (er != 0) = true := by rw [bne_iff_ne]; exact h0
                        have HNO : Hid (decP s a b r = none) := HDN.out h0
                        clear HDO HDN
                        have hxr := HX5.out.rb
                        have u0 : w5.cell? ⟨w.heap.size, 0, none⟩ = some (.int .i64 0) := by rw [cell_of_row _ _ _ _ _ _ hxr]; rfl
                        have fu0 : w5.frozen? ⟨w.heap.size, 0, none⟩ = false := by simp [World.frozen?, hxr]
                        have u1 : w5.cell? ⟨w.heap.size, 1, none⟩ = some (.int .i64 0) := by rw [cell_of_row _ _ _ _ _ _ hxr]; rfl
                        have fu1 : w5.frozen? ⟨w.heap.size, 1, none⟩ = false := by simp [World.frozen?, hxr]
                        have u2 : w5.cell? ⟨w.heap.size, 2, none⟩ = some (.slice none 0 0) := by rw [cell_of_row _ _ _ _ _ _ hxr]; rfl
                        have fu2 : w5.frozen? ⟨w.heap.size, 2, none⟩ = false := by simp [World.frozen?, hxr]
                        have u3 : w5.cell? ⟨w.heap.size, 3, none⟩ = some (.slice none 0 0) := by rw [cell_of_row _ _ _ _ _ _ hxr]; rfl
                        have fu3 : w5.frozen? ⟨w.heap.size, 3, none⟩ = false := by simp [World.frozen?, hxr]
                        clear hxr
                        go_wp2_with fail
                        generalize hwf : World.setCell _ _ _ = wf
                        have hH : wf.heap[w.heap.size]? = some (.cells #[.int .i64 0, .int .i64 0, .slice none 0 0, .slice none 0 0] 24 (0, 0)) := by rw [← hwf]; exact set4_a _ _ _ _ _ HX5.out.rb
                        have hS : Stays (only x) w wf := by rw [← hwf]; exact set4_c _ _ _ _ _ _ _ (Nat.le_refl _) HX5.out.st
                        refine bodyPost_ret (v := .tuple #[.slice none 0 0, zRice, .int .i64 2]) ?_ rfl (DPost.none_ HNO.out ⟨rfl, hS⟩)
                        rw [results_mid rfl]
                        have hl0 := run_loadVar_row (P := Try.prog) wf (w.heap.size) 24 24 #[.int .i64 0, .int .i64 0, .slice none 0 0, .slice none 0 0] (0, 0) _ hH Try.underlying24 rfl info_Rice
                        simp [asAddr, Result.andThen, hl0]
                    · have hce : c = tt - f := by omega
                      subst hce
                      have HPN : Hid (rdParts s m b o r (i + 1) a1 = some ⟨d.L ++ XX, d.P ++ [0], d.E ++ [ev], a3⟩) := HPX.out XX a3 HRX.out
                      have hft : f + (tt - f) = tt := by omega
                      go_wp2_with fail
                      go_roundw
                      case rel => exact ⟨i + 1, ⟨d.L ++ XX, d.P ++ [0], d.E ++ [ev], a3⟩, _, _, _, by omega, rfl, by go_num, HPN.out, by show XD _ _ _ _ _ _ _ _ _ _ _ _ _ (d.L ++ XX) _ _; rw [HLL.out]; exact HX.out⟩
                      case measure => simp [intOf]; omega
                  --@/s


              · refine Ups.cons rfl (fun K hK => ?_) Ups.nil
                go_simp
                have hS7 := (HCE.out _ _ _ _ _ _ _ (HTD.out.alloc (.cells #[.int .i64 ev] 3))).2.2
                refine hK.out _ _ (fun _ => hS7) ?_
                clear hK K
                try simp only [Act.put, List.getElem_toArray, List.getElem_cons_succ, List.getElem_cons_zero, List.setIfInBounds_toArray, List.set_cons_zero, List.set_cons_succ]
                refine Till.ready (rs := [3]) (by kernel_rfl) (by simp) ?_
                refine Ups.cons rfl (fun K hK => ?_) Ups.nil
                go_simp
                have hS3 := (HCE.out _ _ _ _ _ _ _ ((HTD.out.alloc (.cells #[.int .i64 ev] 3)).alloc (.cells #[.int .i64 0] 3))).2.2
                refine hK.out _ _ (fun _ => hS3) ?_
                clear hK K
                try simp only [Act.put, List.getElem_toArray, List.getElem_cons_succ, List.getElem_cons_zero, List.setIfInBounds_toArray, List.set_cons_zero, List.set_cons_succ]
                refine Till.ready (rs := [4]) (by kernel_rfl) (by simp) ?_
                refine Ups.cons rfl (fun K hK => ?_) Ups.nil
                refine step_append_lies _ (by rfl) _ _ _ (by rfl) (k + 1) 3 i3 (.int .i64 0) 1 8 undI3 h3a h3b h3c h3d rfl (by omega) (.slice pa d.P.length pc) d.P.length (intsC d.P) (by rfl) (((HTD.out.alloc (.cells #[.int .i64 ev] 3)).alloc (.cells #[.int .i64 0] 3)).oP) ⟨wz.heap.size + 1, 0, none⟩ 1 1 [.int .i64 0] (by rfl) (by rfl) (World.news_of_block (cs := #[.int .i64 0]) (t := 3) (fr := (0, 0)) (tmp_next wz.drew _ _)) (one_int _ _) (by omega) (by unfold maxLen; omega) (by omega) (((HTD.out.alloc (.cells #[.int .i64 ev] 3)).alloc (.cells #[.int .i64 0] 3)).lt) _ rfl ?_
                intro gP cP wP ownP groP hatP hltP
                have HTP : Hid (XD w x s k m (o : Int) (.slice pa d.P.length pc) (.slice ea d.E.length ec) (.slice (some ⟨gP, 0, none⟩) (d.P.length + 1) cP) (.slice ea d.E.length ec) (.slice la d.L.length lc) (d.P ++ [0]) d.E d.L aj wP) := ((HTD.out.alloc (.cells #[.int .i64 ev] 3)).alloc (.cells #[.int .i64 0] 3)).pushP ownP groP hatP
                have HTM : Hid (wP.heap[wz.heap.size]? = some (.cells #[.int .i64 ev] 3 (0, 0))) := tmp_kept groP (tmp_old wz.drew _ _) (fun e => by have h9 := (HTD.out.oP.lt _ e).2; have h8 : wz.drew.heap.size = wz.heap.size := rfl; omega)
                have hS4 := (HCE.out _ _ _ _ _ _ _ HTP.out).2.2
                refine hK.out _ _ (fun _ => hS4) ?_
                clear hK K
                try simp only [Act.put, List.getElem_toArray, List.getElem_cons_succ, List.getElem_cons_zero, List.setIfInBounds_toArray, List.set_cons_zero, List.set_cons_succ]
                refine Till.take (i := 10) (v := .pointer (some ⟨k, 2, none⟩)) rfl (by kernel_rfl) (by kernel_rfl) (by kernel_rfl) (fun _ _ _ h => h) (by decide) (Waits.of (by kernel_rfl)) (by kernel_rfl) (Or.inl ⟨by rfl, fun w hSw => by (obtain ⟨s2, s3⟩ := hSw; go_simp)⟩) hS4 ?_
                try simp only [Act.put, List.getElem_toArray, List.getElem_cons_succ, List.getElem_cons_zero, List.setIfInBounds_toArray, List.set_cons_zero, List.set_cons_succ]
                refine Till.ready (rs := [9]) (by kernel_rfl) (by simp) ?_
                refine Ups.cons rfl (fun K hK => ?_) Ups.nil
                refine step_append_lies _ (by rfl) _ _ _ (by rfl) (k + 1) 3 i3 (.int .i64 0) 1 8 undI3 h3a h3b h3c h3d rfl (by omega) (.slice ea d.E.length ec) d.E.length (intsC d.E) (by rfl) HTP.out.oE ⟨wz.heap.size, 0, none⟩ 1 1 [.int .i64 ev] (by rfl) (by rfl) (World.news_of_block (cs := #[.int .i64 ev]) (t := 3) (fr := (0, 0)) (HTM.out)) (one_int _ _) (by omega) (by unfold maxLen; omega) (by omega) HTP.out.lt _ rfl ?_
                intro gE cE wE ownE groE hatE hltE
                have HTE : Hid (XD w x s k m (o : Int) (.slice pa d.P.length pc) (.slice ea d.E.length ec) (.slice (some ⟨gP, 0, none⟩) (d.P.length + 1) cP) (.slice (some ⟨gE, 0, none⟩) (d.E.length + 1) cE) (.slice la d.L.length lc) (d.P ++ [0]) (d.E ++ [ev]) d.L aj wE) := HTP.out.pushE ownE groE hatE
                have hS8 := (HCE.out _ _ _ _ _ _ _ HTE.out).2.2
                refine hK.out _ _ (fun _ => hS8) ?_
                clear hK K
                try simp only [Act.put, List.getElem_toArray, List.getElem_cons_succ, List.getElem_cons_zero, List.setIfInBounds_toArray, List.set_cons_zero, List.set_cons_succ]
                clear ownE groE hatE hltE ownP groP hatP hltP
                obtain ⟨z0, z1, z2, z3⟩ := HTE.out.cells
                have fz2 := HTE.out.frozen 2
                have fz3 := HTE.out.frozen 3
                refine Till.ready (rs := [11]) (by kernel_rfl) (by simp) ?_
                refine Ups.cons rfl (fun K hK => ?_) Ups.nil
                go_simp
                refine hK.out _ _ (fun h => Bool.noConfusion (Eq.trans (Eq.symm h) (by kernel_rfl : _ = true))) ?_
                clear hK K
                try simp only [Act.put, List.getElem_toArray, List.getElem_cons_succ, List.getElem_cons_zero, List.setIfInBounds_toArray, List.set_cons_zero, List.set_cons_succ]
                refine Till.ready (rs := [12]) (by kernel_rfl) (by simp) ?_
                refine Ups.cons rfl (fun K hK => ?_) Ups.nil
                go_simp
                refine hK.out _ _ (fun h => Bool.noConfusion (Eq.trans (Eq.symm h) (by kernel_rfl : _ = true))) ?_
                clear hK K
                try simp only [Act.put, List.getElem_toArray, List.getElem_cons_succ, List.getElem_cons_zero, List.setIfInBounds_toArray, List.set_cons_zero, List.set_cons_succ]
                refine Till.ready (rs := [13]) (by kernel_rfl) (by simp) ?_
                refine Ups.cons rfl (fun K hK => ?_) Ups.nil
                go_simp
                refine hK.out _ _ (fun h => Bool.noConfusion (Eq.trans (Eq.symm h) (by kernel_rfl : _ = true))) ?_
                clear hK K
                try simp only [Act.put, List.getElem_toArray, List.getElem_cons_succ, List.getElem_cons_zero, List.setIfInBounds_toArray, List.set_cons_zero, List.set_cons_succ]
                refine Till.done (by kernel_rfl) ?_
                clear z0 z1 z2 z3 fz2 fz3
                refine NoPanic.normal ?_
                --@s
                go_wp2_with fail
                go_loopw [14, 24] (fun s14 s24 wy => ∃ (c : Nat) (XX : List Int) (a3 : Nat) (vL : Value), c ≤ tt - f ∧ s24 = .int .i64 ((f + c : Nat) : Int) ∧ s14 = vL ∧ rdAll s 0 ev c a2 = some (XX, a3) ∧ XD w x s k m (o : Int) (.slice (some ⟨gP, 0, none⟩) (d.P.length + 1) cP) (.slice (some ⟨gE, 0, none⟩) (d.E.length + 1) cE) (.slice (some ⟨gP, 0, none⟩) (d.P.length + 1) cP) (.slice (some ⟨gE, 0, none⟩) (d.E.length + 1) cE) vL (d.P ++ [0]) (d.E ++ [ev]) (d.L ++ XX) a3 wy) (fun _ s24 _ => tt - (intOf s24).toNat)
                case atStart => exact ⟨0, [], a2, _, Nat.zero_le _, by rw [Nat.add_zero], rfl, rfl, by rw [List.append_nil, ← haj]; exact HTE.out.set⟩
                case round =>
                  clear HTE HTP HTD
                  obtain ⟨c, XX, a3, vL, hc, rfl, rfl, hrx, hxd⟩ := hrel
                  obtain ⟨lb, ld, rfl⟩ := hxd.shapeL
                  have HX : Hid (XD w x s k m (o : Int) (.slice (some ⟨gP, 0, none⟩) (d.P.length + 1) cP) (.slice (some ⟨gE, 0, none⟩) (d.E.length + 1) cE) (.slice (some ⟨gP, 0, none⟩) (d.P.length + 1) cP) (.slice (some ⟨gE, 0, none⟩) (d.E.length + 1) cE) (.slice lb (d.L ++ XX).length ld) (d.P ++ [0]) (d.E ++ [ev]) (d.L ++ XX) a3 wr) := hxd
                  clear hxd
                  have HRX : Hid (rdAll s 0 ev c a2 = some (XX, a3)) := hrx
                  have ha3 : a3 ≤ 8 * s.size := rdAll_le hrx ha2
                  have hlx := rdAll_len hrx
                  clear hrx
                  have hLLn : (d.L ++ XX).length ≤ 65535 := by rw [List.length_append, HLF.out, hlx]; omega
                  clear hlx
                  have hbx := rd_bound s a3 0 ev (by omega) (by omega)
                  generalize hLL : d.L ++ XX = LL at *
                  have HLL : Hid (d.L ++ XX = LL) := hLL
                  clear hLL
                  by_cases hcl : c < tt - f
                  · have hlt2 : f + c < tt := by omega
                    have HDN : Hid (¬ rdE s a3 0 ev = 0 → decP s a b r = none) := fun hne => HDPX.out (rdAll_none (tt - f) (rdAll_stop HRX.out hne) (by omega))
                    have HDO : Hid (rdE s a3 0 ev = 0 → rdAll s 0 ev (c + 1) a2 = some (XX ++ [rdV s a3 0 ev], rdA s a3 0 ev)) := fun h0 => rdAll_some HRX.out h0
                    clear HRX
                    generalize hfc : f + c = fc at *
                    have HFC : Hid (f + c = fc) := hfc
                    clear hfc
                    have kr := refsigned_all s hs a3 ha3 wr x ev (by omega) HX.out.rd
                    have e1 : rdE s a3 0 ev = (sgnE s a3 ev) := by unfold rdE; rw [if_neg (by omega), if_neg (by omega)]
                    have e2 : rdV s a3 0 ev = (sgnV s a3 ev) := by unfold rdV; rw [if_neg (by omega), if_neg (by omega)]
                    have e3 : rdA s a3 0 ev = (sgnA s a3 ev) := by unfold rdA; rw [if_neg (by omega), if_neg (by omega)]
                    rw [← e1, ← e2, ← e3] at kr
                    clear e1 e2 e3
                    generalize hre : rdE s a3 0 ev = er at *
                    generalize hrv : rdV s a3 0 ev = vr at *
                    generalize hra : rdA s a3 0 ev = a4 at *
                    clear hre hrv hra
                    go_wp2_with fail
                    refine kr.mono ?_
                    rintro e w5 ⟨rfl, h5, h5s⟩
                    have HX5 : Hid (XD w x s k m (o : Int) (.slice (some ⟨gP, 0, none⟩) (d.P.length + 1) cP) (.slice (some ⟨gE, 0, none⟩) (d.E.length + 1) cE) (.slice (some ⟨gP, 0, none⟩) (d.P.length + 1) cP) (.slice (some ⟨gE, 0, none⟩) (d.E.length + 1) cE) (.slice lb LL.length ld) (d.P ++ [0]) (d.E ++ [ev]) LL a4 w5) := HX.out.read h5 h5s
                    clear h5 h5s kr HX
                    by_cases h0 : er = 0
                    · have HRN : Hid (rdAll s 0 ev (c + 1) a2 = some (XX ++ [vr], a4)) := HDO.out h0
                      subst h0
                      clear HDO HDN
                      go_wp2_with (at_builtin; refine wpList_append_lies _ rfl (.tmp 170) (.tmp 172) 22 rfl (k + 1) 3 i3 (.int .i64 0) 1 8 undI3 h3a h3b h3c h3d rfl (by decide) (.slice lb LL.length ld) LL.length (intsC LL) rfl (HX5.out.alloc _).oL ⟨w5.heap.size, 0, none⟩ 1 1 [.int .i64 vr] rfl rfl (World.news_of_block (cs := #[.int .i64 vr]) (t := 3) (fr := (0, 0)) (tmp_new w5 _)) (one_int _ _) (by omega) (by unfold maxLen; omega) (by omega) (HX5.out.alloc _).lt _ rfl ?_; intro gL cL wL ownL groL hatL hltL)
                      have HXL : Hid (XD w x s k m (o : Int) (.slice (some ⟨gP, 0, none⟩) (d.P.length + 1) cP) (.slice (some ⟨gE, 0, none⟩) (d.E.length + 1) cE) (.slice (some ⟨gP, 0, none⟩) (d.P.length + 1) cP) (.slice (some ⟨gE, 0, none⟩) (d.E.length + 1) cE) (.slice (some ⟨gL, 0, none⟩) (LL.length + 1) cL) (d.P ++ [0]) (d.E ++ [ev]) (LL ++ [vr]) a4 wL) := (HX5.out.alloc _).pushL ownL groL hatL
                      clear ownL groL hatL hltL
                      go_wp2_with fail
                      go_roundw
                      case rel => exact ⟨c + 1, XX ++ [vr], a4, _, by omega, by have := HFC.out; rw [← this]; go_num, rfl, HRN.out, by rw [← List.append_assoc, HLL.out]; exact HXL.out⟩
                      case measure => have := HFC.out; simp [intOf]; omega
                    · have hne : (er != 0) = true := by rw [bne_iff_ne]; exact h0
                      have HNO : Hid (decP s a b r = none) := HDN.out h0
                      clear HDO HDN
                      have hxr := HX5.out.rb
                      have u0 : w5.cell? ⟨w.heap.size, 0, none⟩ = some (.int .i64 0) := by rw [cell_of_row _ _ _ _ _ _ hxr]; rfl
                      have fu0 : w5.frozen? ⟨w.heap.size, 0, none⟩ = false := by simp [World.frozen?, hxr]
                      have u1 : w5.cell? ⟨w.heap.size, 1, none⟩ = some (.int .i64 0) := by rw [cell_of_row _ _ _ _ _ _ hxr]; rfl
                      have fu1 : w5.frozen? ⟨w.heap.size, 1, none⟩ = false := by simp [World.frozen?, hxr]
                      have u2 : w5.cell? ⟨w.heap.size, 2, none⟩ = some (.slice none 0 0) := by rw [cell_of_row _ _ _ _ _ _ hxr]; rfl
                      have fu2 : w5.frozen? ⟨w.heap.size, 2, none⟩ = false := by simp [World.frozen?, hxr]
                      have u3 : w5.cell? ⟨w.heap.size, 3, none⟩ = some (.slice none 0 0) := by rw [cell_of_row _ _ _ _ _ _ hxr]; rfl
                      have fu3 : w5.frozen? ⟨w.heap.size, 3, none⟩ = false := by simp [World.frozen?, hxr]
                      clear hxr
                      go_wp2_with fail
                      generalize hwf : World.setCell _ _ _ = wf
                      have hH : wf.heap[w.heap.size]? = some (.cells #[.int .i64 0, .int .i64 0, .slice none 0 0, .slice none 0 0] 24 (0, 0)) := by rw [← hwf]; exact set4_a _ _ _ _ _ HX5.out.rb
                      have hS : Stays (only x) w wf := by rw [← hwf]; exact set4_c _ _ _ _ _ _ _ (Nat.le_refl _) HX5.out.st
                      refine bodyPost_ret (v := .tuple #[.slice none 0 0, zRice, .int .i64 2]) ?_ rfl (DPost.none_ HNO.out ⟨rfl, hS⟩)
                      rw [results_mid rfl]
                      have hl0 := run_loadVar_row (P := Try.prog) wf (w.heap.size) 24 24 #[.int .i64 0, .int .i64 0, .slice none 0 0, .slice none 0 0] (0, 0) _ hH Try.underlying24 rfl info_Rice
                      simp [asAddr, Result.andThen, hl0]
                  · have hce : c = tt - f := by omega
                    subst hce
                    have HPN : Hid (rdParts s m b o r (i + 1) a1 = some ⟨d.L ++ XX, d.P ++ [0], d.E ++ [ev], a3⟩) := HPX.out XX a3 HRX.out
                    have hft : f + (tt - f) = tt := by omega
                    go_wp2_with fail
                    go_roundw
                    case rel => exact ⟨i + 1, ⟨d.L ++ XX, d.P ++ [0], d.E ++ [ev], a3⟩, _, _, _, by omega, rfl, by go_num, HPN.out, by show XD _ _ _ _ _ _ _ _ _ _ _ _ _ (d.L ++ XX) _ _; rw [HLL.out]; exact HX.out⟩
                    case measure => simp [intOf]; omega
                --@/s


          · have hne : (e5 != 0) = true := by rw [bne_iff_ne]; exact h5
            have HNO : Hid (decP s a b r = none) := HPH.out (by rw [HHE.out, if_neg h5])
            clear HHE HPH HPF HPS
            have hxr := HX6.out.rb
            have u0 : w6.cell? ⟨w.heap.size, 0, none⟩ = some (.int .i64 0) := by rw [cell_of_row _ _ _ _ _ _ hxr]; rfl
            have fu0 : w6.frozen? ⟨w.heap.size, 0, none⟩ = false := by simp [World.frozen?, hxr]
            have u1 : w6.cell? ⟨w.heap.size, 1, none⟩ = some (.int .i64 0) := by rw [cell_of_row _ _ _ _ _ _ hxr]; rfl
            have fu1 : w6.frozen? ⟨w.heap.size, 1, none⟩ = false := by simp [World.frozen?, hxr]
            have u2 : w6.cell? ⟨w.heap.size, 2, none⟩ = some (.slice none 0 0) := by rw [cell_of_row _ _ _ _ _ _ hxr]; rfl
            have fu2 : w6.frozen? ⟨w.heap.size, 2, none⟩ = false := by simp [World.frozen?, hxr]
            have u3 : w6.cell? ⟨w.heap.size, 3, none⟩ = some (.slice none 0 0) := by rw [cell_of_row _ _ _ _ _ _ hxr]; rfl
            have fu3 : w6.frozen? ⟨w.heap.size, 3, none⟩ = false := by simp [World.frozen?, hxr]
            clear hxr
            go_wp2_with fail
            generalize hwf : World.setCell _ _ _ = wf
            have hH : wf.heap[w.heap.size]? = some (.cells #[.int .i64 0, .int .i64 0, .slice none 0 0, .slice none 0 0] 24 (0, 0)) := by rw [← hwf]; exact set4_a _ _ _ _ _ HX6.out.rb
            have hS : Stays (only x) w wf := by rw [← hwf]; exact set4_c _ _ _ _ _ _ _ (Nat.le_refl _) HX6.out.st
            refine bodyPost_ret (v := .tuple #[.slice none 0 0, zRice, .int .i64 2]) ?_ rfl (DPost.none_ HNO.out ⟨rfl, hS⟩)
            rw [results_mid rfl]
            have hl0 := run_loadVar_row (P := Try.prog) wf (w.heap.size) 24 24 #[.int .i64 0, .int .i64 0, .slice none 0 0, .slice none 0 0] (0, 0) _ hH Try.underlying24 rfl info_Rice
            simp [asAddr, Result.andThen, hl0]

        · have hpe : (p == 15 + 16 * m) = false := by rw [beq_eq_false_iff_ne]; exact hmk
          have HRH : Hid (rdHead s d.a m = some (p, -1, ap)) := by
            have h0 := HHD.out
            rw [if_pos rfl, if_neg hmk] at h0
            exact h0
          have hp30 : p ≤ 30 := by omega
          clear HHD HPH hmk
          obtain ⟨a2, ha2e⟩ : ∃ a2, a2 = ap := ⟨_, rfl⟩
          have ha2 : a2 ≤ 8 * s.size := by omega
          subst ha2e
          obtain ⟨aj, haj⟩ : ∃ aj, aj = a2 := ⟨_, rfl⟩
          have HXJ : Hid (XD w x s k m (o : Int) (.slice pa d.P.length pc) (.slice ea d.E.length ec) (.slice pa d.P.length pc) (.slice ea d.E.length ec) (.slice la d.L.length lc) d.P d.E d.L aj w5) := by rw [haj]; exact HX5.out
          clear HX5
          obtain ⟨wz, hwz⟩ : ∃ wz, wz = w5 := ⟨_, rfl⟩
          subst hwz
          have HTD : Hid (XD w x s k m (o : Int) (.slice pa d.P.length pc) (.slice ea d.E.length ec) (.slice pa d.P.length pc) (.slice ea d.E.length ec) (.slice la d.L.length lc) d.P d.E d.L aj wz.drew) := HXJ.out.drew
          obtain ⟨y0, y1, y2, y3⟩ := HXJ.out.cells
          have HCE : Hid (∀ b2 b3 vP vE P E wx, XD w x s k m (o : Int) b2 b3 vP vE (.slice la d.L.length lc) P E d.L aj wx → wx.cell? ⟨k, 0, none⟩ = some (.int .i64 m) ∧ wx.cell? ⟨k, 1, none⟩ = some (.int .i64 (o : Int)) ∧ wx.cell? ⟨k, 2, none⟩ = some b2 ∧ wx.cell? ⟨k, 3, none⟩ = some b3) := fun _ _ _ _ _ _ _ h => h.cells
          have HPX : Hid (∀ XX a3, rdAll s p (-1) (tt - f) a2 = some (XX, a3) → rdParts s m b o r (i + 1) a1 = some ⟨d.L ++ XX, d.P ++ [p], d.E ++ [(-1)], a3⟩) := fun XX a3 h => HPS.out p (-1) a2 XX a3 HRH.out h
          have HDPX : Hid (rdAll s p (-1) (tt - f) a2 = none → decP s a b r = none) := fun h => HPF.out p (-1) a2 HRH.out h
          clear HXJ HPS HPF
          go_wp2_with fail
          refine wp_region_noPanic ?_
          refine Till.begin (n := 11) (S := fun wx => wx.cell? ⟨k, 2, none⟩ = some (.slice pa d.P.length pc) ∧ wx.cell? ⟨k, 3, none⟩ = some (.slice ea d.E.length ec)) (by kernel_rfl) (HCE.out _ _ _ _ _ _ _ HTD.out).2.2 (fun hS => ?_)
          refine Till.take (i := 0) (v := .pointer (some ⟨k, 2, none⟩)) rfl (by kernel_rfl) (by kernel_rfl) (by kernel_rfl) (fun _ _ _ h => h) (by decide) (Waits.of (by kernel_rfl)) (by kernel_rfl) (Or.inl ⟨by rfl, fun w hSw => by (obtain ⟨s2, s3⟩ := hSw; go_simp)⟩) hS ?_
          try simp only [Act.put, List.getElem_toArray, List.getElem_cons_succ, List.getElem_cons_zero, List.setIfInBounds_toArray, List.set_cons_zero, List.set_cons_succ]
          refine Till.take (i := 1) (v := (.slice pa d.P.length pc)) rfl (by kernel_rfl) (by kernel_rfl) (by kernel_rfl) (fun _ _ _ h => h) (by decide) (Waits.of (by kernel_rfl)) (by kernel_rfl) (Or.inl ⟨by rfl, fun w hSw => by (obtain ⟨s2, s3⟩ := hSw; go_simp)⟩) hS ?_
          try simp only [Act.put, List.getElem_toArray, List.getElem_cons_succ, List.getElem_cons_zero, List.setIfInBounds_toArray, List.set_cons_zero, List.set_cons_succ]
          refine Till.take (i := 2) (v := .int .i64 p) rfl (by kernel_rfl) (by kernel_rfl) (by kernel_rfl) (fun _ _ _ h => h) (by decide) (Waits.of (by kernel_rfl)) (by kernel_rfl) (Or.inl ⟨by rfl, fun w hSw => by (obtain ⟨s2, s3⟩ := hSw; go_simp)⟩) hS ?_
          try simp only [Act.put, List.getElem_toArray, List.getElem_cons_succ, List.getElem_cons_zero, List.setIfInBounds_toArray, List.set_cons_zero, List.set_cons_succ]
          refine Till.take (i := 5) (v := .pointer (some ⟨k, 3, none⟩)) rfl (by kernel_rfl) (by kernel_rfl) (by kernel_rfl) (fun _ _ _ h => h) (by decide) (Waits.of (by kernel_rfl)) (by kernel_rfl) (Or.inl ⟨by rfl, fun w hSw => by (obtain ⟨s2, s3⟩ := hSw; go_simp)⟩) hS ?_
          try simp only [Act.put, List.getElem_toArray, List.getElem_cons_succ, List.getElem_cons_zero, List.setIfInBounds_toArray, List.set_cons_zero, List.set_cons_succ]
          refine Till.take (i := 6) (v := (.slice ea d.E.length ec)) rfl (by kernel_rfl) (by kernel_rfl) (by kernel_rfl) (fun _ _ _ h => h) (by decide) (Waits.of (by kernel_rfl)) (by kernel_rfl) (Or.inl ⟨by rfl, fun w hSw => by (obtain ⟨s2, s3⟩ := hSw; go_simp)⟩) hS ?_
          try simp only [Act.put, List.getElem_toArray, List.getElem_cons_succ, List.getElem_cons_zero, List.setIfInBounds_toArray, List.set_cons_zero, List.set_cons_succ]
          refine Till.takeP (i := 7) (v := .int .i64 (-1)) rfl (by kernel_rfl) (by kernel_rfl) (by kernel_rfl) (fun _ _ _ h => h) (by decide) (Or.inl ⟨by rfl, fun w _ => by go_simp⟩) hS ?_
          try simp only [Act.put, List.getElem_toArray, List.getElem_cons_succ, List.getElem_cons_zero, List.setIfInBounds_toArray, List.set_cons_zero, List.set_cons_succ]
          refine Till.ready (rs := [3, 8]) (by kernel_rfl) (by simp) ?_
          refine Ups.cons rfl (fun K hK => ?_) ?_
          · go_simp
            have hS3 := (HCE.out _ _ _ _ _ _ _ (HTD.out.alloc (.cells #[.int .i64 p] 3))).2.2
            refine hK.out _ _ (fun _ => hS3) ?_
            clear hK K
            try simp only [Act.put, List.getElem_toArray, List.getElem_cons_succ, List.getElem_cons_zero, List.setIfInBounds_toArray, List.set_cons_zero, List.set_cons_succ]
            refine Till.ready (rs := [4, 8]) (by kernel_rfl) (by simp) ?_
            refine Ups.cons rfl (fun K hK => ?_) ?_
            · refine step_append_lies _ (by rfl) _ _ _ (by rfl) (k + 1) 3 i3 (.int .i64 0) 1 8 undI3 h3a h3b h3c h3d rfl (by omega) (.slice pa d.P.length pc) d.P.length (intsC d.P) (by rfl) ((HTD.out.alloc (.cells #[.int .i64 p] 3)).oP) ⟨wz.heap.size, 0, none⟩ 1 1 [.int .i64 p] (by rfl) (by rfl) (World.news_of_block (cs := #[.int .i64 p]) (t := 3) (fr := (0, 0)) (tmp_new wz.drew _)) (one_int _ _) (by omega) (by unfold maxLen; omega) (by omega) ((HTD.out.alloc (.cells #[.int .i64 p] 3)).lt) _ rfl ?_
              intro gP cP wP ownP groP hatP hltP
              have HTP : Hid (XD w x s k m (o : Int) (.slice pa d.P.length pc) (.slice ea d.E.length ec) (.slice (some ⟨gP, 0, none⟩) (d.P.length + 1) cP) (.slice ea d.E.length ec) (.slice la d.L.length lc) (d.P ++ [p]) d.E d.L aj wP) := (HTD.out.alloc (.cells #[.int .i64 p] 3)).pushP ownP groP hatP
              have hS4 := (HCE.out _ _ _ _ _ _ _ HTP.out).2.2
              refine hK.out _ _ (fun _ => hS4) ?_
              clear hK K
              try simp only [Act.put, List.getElem_toArray, List.getElem_cons_succ, List.getElem_cons_zero, List.setIfInBounds_toArray, List.set_cons_zero, List.set_cons_succ]
              refine Till.take (i := 10) (v := .pointer (some ⟨k, 2, none⟩)) rfl (by kernel_rfl) (by kernel_rfl) (by kernel_rfl) (fun _ _ _ h => h) (by decide) (Waits.of (by kernel_rfl)) (by kernel_rfl) (Or.inl ⟨by rfl, fun w hSw => by (obtain ⟨s2, s3⟩ := hSw; go_simp)⟩) hS4 ?_
              try simp only [Act.put, List.getElem_toArray, List.getElem_cons_succ, List.getElem_cons_zero, List.setIfInBounds_toArray, List.set_cons_zero, List.set_cons_succ]
              refine Till.ready (rs := [8]) (by kernel_rfl) (by simp) ?_
              refine Ups.cons rfl (fun K hK => ?_) Ups.nil
              go_simp
              have hS7 := (HCE.out _ _ _ _ _ _ _ (HTP.out.alloc (.cells #[.int .i64 (-1)] 3))).2.2
              refine hK.out _ _ (fun _ => hS7) ?_
              clear hK K
              try simp only [Act.put, List.getElem_toArray, List.getElem_cons_succ, List.getElem_cons_zero, List.setIfInBounds_toArray, List.set_cons_zero, List.set_cons_succ]
              refine Till.ready (rs := [9]) (by kernel_rfl) (by simp) ?_
              refine Ups.cons rfl (fun K hK => ?_) Ups.nil
              refine step_append_lies _ (by rfl) _ _ _ (by rfl) (k + 1) 3 i3 (.int .i64 0) 1 8 undI3 h3a h3b h3c h3d rfl (by omega) (.slice ea d.E.length ec) d.E.length (intsC d.E) (by rfl) ((HTP.out.alloc (.cells #[.int .i64 (-1)] 3)).oE) ⟨wP.heap.size, 0, none⟩ 1 1 [.int .i64 (-1)] (by rfl) (by rfl) (World.news_of_block (cs := #[.int .i64 (-1)]) (t := 3) (fr := (0, 0)) (tmp_new wP _)) (one_int _ _) (by omega) (by unfold maxLen; omega) (by omega) ((HTP.out.alloc (.cells #[.int .i64 (-1)] 3)).lt) _ rfl ?_
              intro gE cE wE ownE groE hatE hltE
              have HTE : Hid (XD w x s k m (o : Int) (.slice pa d.P.length pc) (.slice ea d.E.length ec) (.slice (some ⟨gP, 0, none⟩) (d.P.length + 1) cP) (.slice (some ⟨gE, 0, none⟩) (d.E.length + 1) cE) (.slice la d.L.length lc) (d.P ++ [p]) (d.E ++ [(-1)]) d.L aj wE) := (HTP.out.alloc (.cells #[.int .i64 (-1)] 3)).pushE ownE groE hatE
              have hS8 := (HCE.out _ _ _ _ _ _ _ HTE.out).2.2
              refine hK.out _ _ (fun _ => hS8) ?_
              clear hK K
              try simp only [Act.put, List.getElem_toArray, List.getElem_cons_succ, List.getElem_cons_zero, List.setIfInBounds_toArray, List.set_cons_zero, List.set_cons_succ]
              clear ownE groE hatE hltE ownP groP hatP hltP
              obtain ⟨z0, z1, z2, z3⟩ := HTE.out.cells
              have fz2 := HTE.out.frozen 2
              have fz3 := HTE.out.frozen 3
              refine Till.ready (rs := [11]) (by kernel_rfl) (by simp) ?_
              refine Ups.cons rfl (fun K hK => ?_) Ups.nil
              go_simp
              refine hK.out _ _ (fun h => Bool.noConfusion (Eq.trans (Eq.symm h) (by kernel_rfl : _ = true))) ?_
              clear hK K
              try simp only [Act.put, List.getElem_toArray, List.getElem_cons_succ, List.getElem_cons_zero, List.setIfInBounds_toArray, List.set_cons_zero, List.set_cons_succ]
              refine Till.ready (rs := [12]) (by kernel_rfl) (by simp) ?_
              refine Ups.cons rfl (fun K hK => ?_) Ups.nil
              go_simp
              refine hK.out _ _ (fun h => Bool.noConfusion (Eq.trans (Eq.symm h) (by kernel_rfl : _ = true))) ?_
              clear hK K
              try simp only [Act.put, List.getElem_toArray, List.getElem_cons_succ, List.getElem_cons_zero, List.setIfInBounds_toArray, List.set_cons_zero, List.set_cons_succ]
              refine Till.ready (rs := [13]) (by kernel_rfl) (by simp) ?_
              refine Ups.cons rfl (fun K hK => ?_) Ups.nil
              go_simp
              refine hK.out _ _ (fun h => Bool.noConfusion (Eq.trans (Eq.symm h) (by kernel_rfl : _ = true))) ?_
              clear hK K
              try simp only [Act.put, List.getElem_toArray, List.getElem_cons_succ, List.getElem_cons_zero, List.setIfInBounds_toArray, List.set_cons_zero, List.set_cons_succ]
              refine Till.done (by kernel_rfl) ?_
              clear z0 z1 z2 z3 fz2 fz3
              refine NoPanic.normal ?_
              --@r
              go_wp2_with fail
              go_loopw [14, 24] (fun s14 s24 wy => ∃ (c : Nat) (XX : List Int) (a3 : Nat) (vL : Value), c ≤ tt - f ∧ s24 = .int .i64 ((f + c : Nat) : Int) ∧ s14 = vL ∧ rdAll s p (-1) c a2 = some (XX, a3) ∧ XD w x s k m (o : Int) (.slice (some ⟨gP, 0, none⟩) (d.P.length + 1) cP) (.slice (some ⟨gE, 0, none⟩) (d.E.length + 1) cE) (.slice (some ⟨gP, 0, none⟩) (d.P.length + 1) cP) (.slice (some ⟨gE, 0, none⟩) (d.E.length + 1) cE) vL (d.P ++ [p]) (d.E ++ [(-1)]) (d.L ++ XX) a3 wy) (fun _ s24 _ => tt - (intOf s24).toNat)
              case atStart => exact ⟨0, [], a2, _, Nat.zero_le _, by rw [Nat.add_zero], rfl, rfl, by rw [List.append_nil, ← haj]; exact HTE.out.set⟩
              case round =>
                clear HTE HTP HTD
                obtain ⟨c, XX, a3, vL, hc, rfl, rfl, hrx, hxd⟩ := hrel
                obtain ⟨lb, ld, rfl⟩ := hxd.shapeL
                have HX : Hid (XD w x s k m (o : Int) (.slice (some ⟨gP, 0, none⟩) (d.P.length + 1) cP) (.slice (some ⟨gE, 0, none⟩) (d.E.length + 1) cE) (.slice (some ⟨gP, 0, none⟩) (d.P.length + 1) cP) (.slice (some ⟨gE, 0, none⟩) (d.E.length + 1) cE) (.slice lb (d.L ++ XX).length ld) (d.P ++ [p]) (d.E ++ [(-1)]) (d.L ++ XX) a3 wr) := hxd
                clear hxd
                have HRX : Hid (rdAll s p (-1) c a2 = some (XX, a3)) := hrx
                have ha3 : a3 ≤ 8 * s.size := rdAll_le hrx ha2
                have hlx := rdAll_len hrx
                clear hrx
                have hLLn : (d.L ++ XX).length ≤ 65535 := by rw [List.length_append, HLF.out, hlx]; omega
                clear hlx
                have hbx := rd_bound s a3 p (-1) (by omega) (by omega)
                generalize hLL : d.L ++ XX = LL at *
                have HLL : Hid (d.L ++ XX = LL) := hLL
                clear hLL
                by_cases hcl : c < tt - f
                · have hlt2 : f + c < tt := by omega
                  have HDN : Hid (¬ rdE s a3 p (-1) = 0 → decP s a b r = none) := fun hne => HDPX.out (rdAll_none (tt - f) (rdAll_stop HRX.out hne) (by omega))
                  have HDO : Hid (rdE s a3 p (-1) = 0 → rdAll s p (-1) (c + 1) a2 = some (XX ++ [rdV s a3 p (-1)], rdA s a3 p (-1))) := fun h0 => rdAll_some HRX.out h0
                  clear HRX
                  generalize hfc : f + c = fc at *
                  have HFC : Hid (f + c = fc) := hfc
                  clear hfc
                  have kr := refrice_all s hs a3 ha3 wr x p HX.out.rd
                  have e1 : rdE s a3 p (-1) = (ricE s a3 p) := by unfold rdE; rw [if_pos rfl]
                  have e2 : rdV s a3 p (-1) = (ricV s a3 p) := by unfold rdV; rw [if_pos rfl]
                  have e3 : rdA s a3 p (-1) = (ricA s a3 p) := by unfold rdA; rw [if_pos rfl]
                  rw [← e1, ← e2, ← e3] at kr
                  clear e1 e2 e3
                  generalize hre : rdE s a3 p (-1) = er at *
                  generalize hrv : rdV s a3 p (-1) = vr at *
                  generalize hra : rdA s a3 p (-1) = a4 at *
                  clear hre hrv hra
                  go_wp2_with fail
                  refine kr.mono ?_
                  rintro e w5 ⟨rfl, h5, h5s⟩
                  have HX5 : Hid (XD w x s k m (o : Int) (.slice (some ⟨gP, 0, none⟩) (d.P.length + 1) cP) (.slice (some ⟨gE, 0, none⟩) (d.E.length + 1) cE) (.slice (some ⟨gP, 0, none⟩) (d.P.length + 1) cP) (.slice (some ⟨gE, 0, none⟩) (d.E.length + 1) cE) (.slice lb LL.length ld) (d.P ++ [p]) (d.E ++ [(-1)]) LL a4 w5) := HX.out.read h5 h5s
                  clear h5 h5s kr HX
                  by_cases h0 : er = 0
                  · have HRN : Hid (rdAll s p (-1) (c + 1) a2 = some (XX ++ [vr], a4)) := HDO.out h0
                    subst h0
                    clear HDO HDN
                    go_wp2_with (at_builtin; refine wpList_append_lies _ rfl (.tmp 170) (.tmp 172) 22 rfl (k + 1) 3 i3 (.int .i64 0) 1 8 undI3 h3a h3b h3c h3d rfl (by decide) (.slice lb LL.length ld) LL.length (intsC LL) rfl (HX5.out.alloc _).oL ⟨w5.heap.size, 0, none⟩ 1 1 [.int .i64 vr] rfl rfl (World.news_of_block (cs := #[.int .i64 vr]) (t := 3) (fr := (0, 0)) (tmp_new w5 _)) (one_int _ _) (by omega) (by unfold maxLen; omega) (by omega) (HX5.out.alloc _).lt _ rfl ?_; intro gL cL wL ownL groL hatL hltL)
                    have HXL : Hid (XD w x s k m (o : Int) (.slice (some ⟨gP, 0, none⟩) (d.P.length + 1) cP) (.slice (some ⟨gE, 0, none⟩) (d.E.length + 1) cE) (.slice (some ⟨gP, 0, none⟩) (d.P.length + 1) cP) (.slice (some ⟨gE, 0, none⟩) (d.E.length + 1) cE) (.slice (some ⟨gL, 0, none⟩) (LL.length + 1) cL) (d.P ++ [p]) (d.E ++ [(-1)]) (LL ++ [vr]) a4 wL) := (HX5.out.alloc _).pushL ownL groL hatL
                    clear ownL groL hatL hltL
                    go_wp2_with fail
                    go_roundw
                    case rel => exact ⟨c + 1, XX ++ [vr], a4, _, by omega, by have := HFC.out; rw [← this]; go_num, rfl, HRN.out, by rw [← List.append_assoc, HLL.out]; exact HXL.out⟩
                    case measure => have := HFC.out; simp [intOf]; omega
                  · have hne : (er != 0) = true := by rw [bne_iff_ne]; exact h0
                    have HNO : Hid (decP s a b r = none) := HDN.out h0
                    clear HDO HDN
                    have hxr := HX5.out.rb
                    have u0 : w5.cell? ⟨w.heap.size, 0, none⟩ = some (.int .i64 0) := by rw [cell_of_row _ _ _ _ _ _ hxr]; rfl
                    have fu0 : w5.frozen? ⟨w.heap.size, 0, none⟩ = false := by simp [World.frozen?, hxr]
                    have u1 : w5.cell? ⟨w.heap.size, 1, none⟩ = some (.int .i64 0) := by rw [cell_of_row _ _ _ _ _ _ hxr]; rfl
                    have fu1 : w5.frozen? ⟨w.heap.size, 1, none⟩ = false := by simp [World.frozen?, hxr]
                    have u2 : w5.cell? ⟨w.heap.size, 2, none⟩ = some (.slice none 0 0) := by rw [cell_of_row _ _ _ _ _ _ hxr]; rfl
                    have fu2 : w5.frozen? ⟨w.heap.size, 2, none⟩ = false := by simp [World.frozen?, hxr]
                    have u3 : w5.cell? ⟨w.heap.size, 3, none⟩ = some (.slice none 0 0) := by rw [cell_of_row _ _ _ _ _ _ hxr]; rfl
                    have fu3 : w5.frozen? ⟨w.heap.size, 3, none⟩ = false := by simp [World.frozen?, hxr]
                    clear hxr
                    go_wp2_with fail
                    generalize hwf : World.setCell _ _ _ = wf
                    have hH : wf.heap[w.heap.size]? = some (.cells #[.int .i64 0, .int .i64 0, .slice none 0 0, .slice none 0 0] 24 (0, 0)) := by rw [← hwf]; exact set4_a _ _ _ _ _ HX5.out.rb
                    have hS : Stays (only x) w wf := by rw [← hwf]; exact set4_c _ _ _ _ _ _ _ (Nat.le_refl _) HX5.out.st
                    refine bodyPost_ret (v := .tuple #[.slice none 0 0, zRice, .int .i64 2]) ?_ rfl (DPost.none_ HNO.out ⟨rfl, hS⟩)
                    rw [results_mid rfl]
                    have hl0 := run_loadVar_row (P := Try.prog) wf (w.heap.size) 24 24 #[.int .i64 0, .int .i64 0, .slice none 0 0, .slice none 0 0] (0, 0) _ hH Try.underlying24 rfl info_Rice
                    simp [asAddr, Result.andThen, hl0]
                · have hce : c = tt - f := by omega
                  subst hce
                  have HPN : Hid (rdParts s m b o r (i + 1) a1 = some ⟨d.L ++ XX, d.P ++ [p], d.E ++ [(-1)], a3⟩) := HPX.out XX a3 HRX.out
                  have hft : f + (tt - f) = tt := by omega
                  go_wp2_with fail
                  go_roundw
                  case rel => exact ⟨i + 1, ⟨d.L ++ XX, d.P ++ [p], d.E ++ [(-1)], a3⟩, _, _, _, by omega, rfl, by go_num, HPN.out, by show XD _ _ _ _ _ _ _ _ _ _ _ _ _ (d.L ++ XX) _ _; rw [HLL.out]; exact HX.out⟩
                  case measure => simp [intOf]; omega
              --@/r

            · refine Ups.cons rfl (fun K hK => ?_) Ups.nil
              go_simp
              have hS7 := (HCE.out _ _ _ _ _ _ _ ((HTD.out.alloc (.cells #[.int .i64 p] 3)).alloc (.cells #[.int .i64 (-1)] 3))).2.2
              refine hK.out _ _ (fun _ => hS7) ?_
              clear hK K
              try simp only [Act.put, List.getElem_toArray, List.getElem_cons_succ, List.getElem_cons_zero, List.setIfInBounds_toArray, List.set_cons_zero, List.set_cons_succ]
              refine Till.ready (rs := [4]) (by kernel_rfl) (by simp) ?_
              refine Ups.cons rfl (fun K hK => ?_) Ups.nil
              refine step_append_lies _ (by rfl) _ _ _ (by rfl) (k + 1) 3 i3 (.int .i64 0) 1 8 undI3 h3a h3b h3c h3d rfl (by omega) (.slice pa d.P.length pc) d.P.length (intsC d.P) (by rfl) (((HTD.out.alloc (.cells #[.int .i64 p] 3)).alloc (.cells #[.int .i64 (-1)] 3)).oP) ⟨wz.heap.size, 0, none⟩ 1 1 [.int .i64 p] (by rfl) (by rfl) (World.news_of_block (cs := #[.int .i64 p]) (t := 3) (fr := (0, 0)) (tmp_old wz.drew _ _)) (one_int _ _) (by omega) (by unfold maxLen; omega) (by omega) (((HTD.out.alloc (.cells #[.int .i64 p] 3)).alloc (.cells #[.int .i64 (-1)] 3)).lt) _ rfl ?_
              intro gP cP wP ownP groP hatP hltP
              have HTP : Hid (XD w x s k m (o : Int) (.slice pa d.P.length pc) (.slice ea d.E.length ec) (.slice (some ⟨gP, 0, none⟩) (d.P.length + 1) cP) (.slice ea d.E.length ec) (.slice la d.L.length lc) (d.P ++ [p]) d.E d.L aj wP) := ((HTD.out.alloc (.cells #[.int .i64 p] 3)).alloc (.cells #[.int .i64 (-1)] 3)).pushP ownP groP hatP
              have HTM : Hid (wP.heap[wz.heap.size + 1]? = some (.cells #[.int .i64 (-1)] 3 (0, 0))) := tmp_kept groP (tmp_next wz.drew _ _) (fun e => by have h9 := (HTD.out.oP.lt _ e).2; have h8 : wz.drew.heap.size = wz.heap.size := rfl; omega)
              have hS4 := (HCE.out _ _ _ _ _ _ _ HTP.out).2.2
              refine hK.out _ _ (fun _ => hS4) ?_
              clear hK K
              try simp only [Act.put, List.getElem_toArray, List.getElem_cons_succ, List.getElem_cons_zero, List.setIfInBounds_toArray, List.set_cons_zero, List.set_cons_succ]
              refine Till.take (i := 10) (v := .pointer (some ⟨k, 2, none⟩)) rfl (by kernel_rfl) (by kernel_rfl) (by kernel_rfl) (fun _ _ _ h => h) (by decide) (Waits.of (by kernel_rfl)) (by kernel_rfl) (Or.inl ⟨by rfl, fun w hSw => by (obtain ⟨s2, s3⟩ := hSw; go_simp)⟩) hS4 ?_
              try simp only [Act.put, List.getElem_toArray, List.getElem_cons_succ, List.getElem_cons_zero, List.setIfInBounds_toArray, List.set_cons_zero, List.set_cons_succ]
              refine Till.ready (rs := [9]) (by kernel_rfl) (by simp) ?_
              refine Ups.cons rfl (fun K hK => ?_) Ups.nil
              refine step_append_lies _ (by rfl) _ _ _ (by rfl) (k + 1) 3 i3 (.int .i64 0) 1 8 undI3 h3a h3b h3c h3d rfl (by omega) (.slice ea d.E.length ec) d.E.length (intsC d.E) (by rfl) HTP.out.oE ⟨wz.heap.size + 1, 0, none⟩ 1 1 [.int .i64 (-1)] (by rfl) (by rfl) (World.news_of_block (cs := #[.int .i64 (-1)]) (t := 3) (fr := (0, 0)) (HTM.out)) (one_int _ _) (by omega) (by unfold maxLen; omega) (by omega) HTP.out.lt _ rfl ?_
              intro gE cE wE ownE groE hatE hltE
              have HTE : Hid (XD w x s k m (o : Int) (.slice pa d.P.length pc) (.slice ea d.E.length ec) (.slice (some ⟨gP, 0, none⟩) (d.P.length + 1) cP) (.slice (some ⟨gE, 0, none⟩) (d.E.length + 1) cE) (.slice la d.L.length lc) (d.P ++ [p]) (d.E ++ [(-1)]) d.L aj wE) := HTP.out.pushE ownE groE hatE
              have hS8 := (HCE.out _ _ _ _ _ _ _ HTE.out).2.2
              refine hK.out _ _ (fun _ => hS8) ?_
              clear hK K
              try simp only [Act.put, List.getElem_toArray, List.getElem_cons_succ, List.getElem_cons_zero, List.setIfInBounds_toArray, List.set_cons_zero, List.set_cons_succ]
              clear ownE groE hatE hltE ownP groP hatP hltP
              obtain ⟨z0, z1, z2, z3⟩ := HTE.out.cells
              have fz2 := HTE.out.frozen 2
              have fz3 := HTE.out.frozen 3
              refine Till.ready (rs := [11]) (by kernel_rfl) (by simp) ?_
              refine Ups.cons rfl (fun K hK => ?_) Ups.nil
              go_simp
              refine hK.out _ _ (fun h => Bool.noConfusion (Eq.trans (Eq.symm h) (by kernel_rfl : _ = true))) ?_
              clear hK K
              try simp only [Act.put, List.getElem_toArray, List.getElem_cons_succ, List.getElem_cons_zero, List.setIfInBounds_toArray, List.set_cons_zero, List.set_cons_succ]
              refine Till.ready (rs := [12]) (by kernel_rfl) (by simp) ?_
              refine Ups.cons rfl (fun K hK => ?_) Ups.nil
              go_simp
              refine hK.out _ _ (fun h => Bool.noConfusion (Eq.trans (Eq.symm h) (by kernel_rfl : _ = true))) ?_
              clear hK K
              try simp only [Act.put, List.getElem_toArray, List.getElem_cons_succ, List.getElem_cons_zero, List.setIfInBounds_toArray, List.set_cons_zero, List.set_cons_succ]
              refine Till.ready (rs := [13]) (by kernel_rfl) (by simp) ?_
              refine Ups.cons rfl (fun K hK => ?_) Ups.nil
              go_simp
              refine hK.out _ _ (fun h => Bool.noConfusion (Eq.trans (Eq.symm h) (by kernel_rfl : _ = true))) ?_
              clear hK K
              try simp only [Act.put, List.getElem_toArray, List.getElem_cons_succ, List.getElem_cons_zero, List.setIfInBounds_toArray, List.set_cons_zero, List.set_cons_succ]
              refine Till.done (by kernel_rfl) ?_
              clear z0 z1 z2 z3 fz2 fz3
              refine NoPanic.normal ?_
              --@r
              go_wp2_with fail
              go_loopw [14, 24] (fun s14 s24 wy => ∃ (c : Nat) (XX : List Int) (a3 : Nat) (vL : Value), c ≤ tt - f ∧ s24 = .int .i64 ((f + c : Nat) : Int) ∧ s14 = vL ∧ rdAll s p (-1) c a2 = some (XX, a3) ∧ XD w x s k m (o : Int) (.slice (some ⟨gP, 0, none⟩) (d.P.length + 1) cP) (.slice (some ⟨gE, 0, none⟩) (d.E.length + 1) cE) (.slice (some ⟨gP, 0, none⟩) (d.P.length + 1) cP) (.slice (some ⟨gE, 0, none⟩) (d.E.length + 1) cE) vL (d.P ++ [p]) (d.E ++ [(-1)]) (d.L ++ XX) a3 wy) (fun _ s24 _ => tt - (intOf s24).toNat)
              case atStart => exact ⟨0, [], a2, _, Nat.zero_le _, by rw [Nat.add_zero], rfl, rfl, by rw [List.append_nil, ← haj]; exact HTE.out.set⟩
              case round =>
                clear HTE HTP HTD
                obtain ⟨c, XX, a3, vL, hc, rfl, rfl, hrx, hxd⟩ := hrel
                obtain ⟨lb, ld, rfl⟩ := hxd.shapeL
                have HX : Hid (XD w x s k m (o : Int) (.slice (some ⟨gP, 0, none⟩) (d.P.length + 1) cP) (.slice (some ⟨gE, 0, none⟩) (d.E.length + 1) cE) (.slice (some ⟨gP, 0, none⟩) (d.P.length + 1) cP) (.slice (some ⟨gE, 0, none⟩) (d.E.length + 1) cE) (.slice lb (d.L ++ XX).length ld) (d.P ++ [p]) (d.E ++ [(-1)]) (d.L ++ XX) a3 wr) := hxd
                clear hxd
                have HRX : Hid (rdAll s p (-1) c a2 = some (XX, a3)) := hrx
                have ha3 : a3 ≤ 8 * s.size := rdAll_le hrx ha2
                have hlx := rdAll_len hrx
                clear hrx
                have hLLn : (d.L ++ XX).length ≤ 65535 := by rw [List.length_append, HLF.out, hlx]; omega
                clear hlx
                have hbx := rd_bound s a3 p (-1) (by omega) (by omega)
                generalize hLL : d.L ++ XX = LL at *
                have HLL : Hid (d.L ++ XX = LL) := hLL
                clear hLL
                by_cases hcl : c < tt - f
                · have hlt2 : f + c < tt := by omega
                  have HDN : Hid (¬ rdE s a3 p (-1) = 0 → decP s a b r = none) := fun hne => HDPX.out (rdAll_none (tt - f) (rdAll_stop HRX.out hne) (by omega))
                  have HDO : Hid (rdE s a3 p (-1) = 0 → rdAll s p (-1) (c + 1) a2 = some (XX ++ [rdV s a3 p (-1)], rdA s a3 p (-1))) := fun h0 => rdAll_some HRX.out h0
                  clear HRX
                  generalize hfc : f + c = fc at *
                  have HFC : Hid (f + c = fc) := hfc
                  clear hfc
                  have kr := refrice_all s hs a3 ha3 wr x p HX.out.rd
                  have e1 : rdE s a3 p (-1) = (ricE s a3 p) := by unfold rdE; rw [if_pos rfl]
                  have e2 : rdV s a3 p (-1) = (ricV s a3 p) := by unfold rdV; rw [if_pos rfl]
                  have e3 : rdA s a3 p (-1) = (ricA s a3 p) := by unfold rdA; rw [if_pos rfl]
                  rw [← e1, ← e2, ← e3] at kr
                  clear e1 e2 e3
                  generalize hre : rdE s a3 p (-1) = er at *
                  generalize hrv : rdV s a3 p (-1) = vr at *
                  generalize hra : rdA s a3 p (-1) = a4 at *
                  clear hre hrv hra
                  go_wp2_with fail
                  refine kr.mono ?_
                  rintro e w5 ⟨rfl, h5, h5s⟩
                  have HX5 : Hid (XD w x s k m (o : Int) (.slice (some ⟨gP, 0, none⟩) (d.P.length + 1) cP) (.slice (some ⟨gE, 0, none⟩) (d.E.length + 1) cE) (.slice (some ⟨gP, 0, none⟩) (d.P.length + 1) cP) (.slice (some ⟨gE, 0, none⟩) (d.E.length + 1) cE) (.slice lb LL.length ld) (d.P ++ [p]) (d.E ++ [(-1)]) LL a4 w5) := HX.out.read h5 h5s
                  clear h5 h5s kr HX
                  by_cases h0 : er = 0
                  · have HRN : Hid (rdAll s p (-1) (c + 1) a2 = some (XX ++ [vr], a4)) := HDO.out h0
                    subst h0
                    clear HDO HDN
                    go_wp2_with (at_builtin; refine wpList_append_lies _ rfl (.tmp 170) (.tmp 172) 22 rfl (k + 1) 3 i3 (.int .i64 0) 1 8 undI3 h3a h3b h3c h3d rfl (by decide) (.slice lb LL.length ld) LL.length (intsC LL) rfl (HX5.out.alloc _).oL ⟨w5.heap.size, 0, none⟩ 1 1 [.int .i64 vr] rfl rfl (World.news_of_block (cs := #[.int .i64 vr]) (t := 3) (fr := (0, 0)) (tmp_new w5 _)) (one_int _ _) (by omega) (by unfold maxLen; omega) (by omega) (HX5.out.alloc _).lt _ rfl ?_; intro gL cL wL ownL groL hatL hltL)
                    have HXL : Hid (XD w x s k m (o : Int) (.slice (some ⟨gP, 0, none⟩) (d.P.length + 1) cP) (.slice (some ⟨gE, 0, none⟩) (d.E.length + 1) cE) (.slice (some ⟨gP, 0, none⟩) (d.P.length + 1) cP) (.slice (some ⟨gE, 0, none⟩) (d.E.length + 1) cE) (.slice (some ⟨gL, 0, none⟩) (LL.length + 1) cL) (d.P ++ [p]) (d.E ++ [(-1)]) (LL ++ [vr]) a4 wL) := (HX5.out.alloc _).pushL ownL groL hatL
                    clear ownL groL hatL hltL
                    go_wp2_with fail
                    go_roundw
                    case rel => exact ⟨c + 1, XX ++ [vr], a4, _, by omega, by have := HFC.out; rw [← this]; go_num, rfl, HRN.out, by rw [← List.append_assoc, HLL.out]; exact HXL.out⟩
                    case measure => have := HFC.out; simp [intOf]; omega
                  · have hne : (er != 0) = true := by rw [bne_iff_ne]; exact h0
                    have HNO : Hid (decP s a b r = none) := HDN.out h0
                    clear HDO HDN
                    have hxr := HX5.out.rb
                    have u0 : w5.cell? ⟨w.heap.size, 0, none⟩ = some (.int .i64 0) := by rw [cell_of_row _ _ _ _ _ _ hxr]; rfl
                    have fu0 : w5.frozen? ⟨w.heap.size, 0, none⟩ = false := by simp [World.frozen?, hxr]
                    have u1 : w5.cell? ⟨w.heap.size, 1, none⟩ = some (.int .i64 0) := by rw [cell_of_row _ _ _ _ _ _ hxr]; rfl
                    have fu1 : w5.frozen? ⟨w.heap.size, 1, none⟩ = false := by simp [World.frozen?, hxr]
                    have u2 : w5.cell? ⟨w.heap.size, 2, none⟩ = some (.slice none 0 0) := by rw [cell_of_row _ _ _ _ _ _ hxr]; rfl
                    have fu2 : w5.frozen? ⟨w.heap.size, 2, none⟩ = false := by simp [World.frozen?, hxr]
                    have u3 : w5.cell? ⟨w.heap.size, 3, none⟩ = some (.slice none 0 0) := by rw [cell_of_row _ _ _ _ _ _ hxr]; rfl
                    have fu3 : w5.frozen? ⟨w.heap.size, 3, none⟩ = false := by simp [World.frozen?, hxr]
                    clear hxr
                    go_wp2_with fail
                    generalize hwf : World.setCell _ _ _ = wf
                    have hH : wf.heap[w.heap.size]? = some (.cells #[.int .i64 0, .int .i64 0, .slice none 0 0, .slice none 0 0] 24 (0, 0)) := by rw [← hwf]; exact set4_a _ _ _ _ _ HX5.out.rb
                    have hS : Stays (only x) w wf := by rw [← hwf]; exact set4_c _ _ _ _ _ _ _ (Nat.le_refl _) HX5.out.st
                    refine bodyPost_ret (v := .tuple #[.slice none 0 0, zRice, .int .i64 2]) ?_ rfl (DPost.none_ HNO.out ⟨rfl, hS⟩)
                    rw [results_mid rfl]
                    have hl0 := run_loadVar_row (P := Try.prog) wf (w.heap.size) 24 24 #[.int .i64 0, .int .i64 0, .slice none 0 0, .slice none 0 0] (0, 0) _ hH Try.underlying24 rfl info_Rice
                    simp [asAddr, Result.andThen, hl0]
                · have hce : c = tt - f := by omega
                  subst hce
                  have HPN : Hid (rdParts s m b o r (i + 1) a1 = some ⟨d.L ++ XX, d.P ++ [p], d.E ++ [(-1)], a3⟩) := HPX.out XX a3 HRX.out
                  have hft : f + (tt - f) = tt := by omega
                  go_wp2_with fail
                  go_roundw
                  case rel => exact ⟨i + 1, ⟨d.L ++ XX, d.P ++ [p], d.E ++ [(-1)], a3⟩, _, _, _, by omega, rfl, by go_num, HPN.out, by show XD _ _ _ _ _ _ _ _ _ _ _ _ _ (d.L ++ XX) _ _; rw [HLL.out]; exact HX.out⟩
                  case measure => simp [intOf]; omega
              --@/r


          · refine Ups.cons rfl (fun K hK => ?_) Ups.nil
            go_simp
            have hS7 := (HCE.out _ _ _ _ _ _ _ (HTD.out.alloc (.cells #[.int .i64 (-1)] 3))).2.2
            refine hK.out _ _ (fun _ => hS7) ?_
            clear hK K
            try simp only [Act.put, List.getElem_toArray, List.getElem_cons_succ, List.getElem_cons_zero, List.setIfInBounds_toArray, List.set_cons_zero, List.set_cons_succ]
            refine Till.ready (rs := [3]) (by kernel_rfl) (by simp) ?_
            refine Ups.cons rfl (fun K hK => ?_) Ups.nil
            go_simp
            have hS3 := (HCE.out _ _ _ _ _ _ _ ((HTD.out.alloc (.cells #[.int .i64 (-1)] 3)).alloc (.cells #[.int .i64 p] 3))).2.2
            refine hK.out _ _ (fun _ => hS3) ?_
            clear hK K
            try simp only [Act.put, List.getElem_toArray, List.getElem_cons_succ, List.getElem_cons_zero, List.setIfInBounds_toArray, List.set_cons_zero, List.set_cons_succ]
            refine Till.ready (rs := [4]) (by kernel_rfl) (by simp) ?_
            refine Ups.cons rfl (fun K hK => ?_) Ups.nil
            refine step_append_lies _ (by rfl) _ _ _ (by rfl) (k + 1) 3 i3 (.int .i64 0) 1 8 undI3 h3a h3b h3c h3d rfl (by omega) (.slice pa d.P.length pc) d.P.length (intsC d.P) (by rfl) (((HTD.out.alloc (.cells #[.int .i64 (-1)] 3)).alloc (.cells #[.int .i64 p] 3)).oP) ⟨wz.heap.size + 1, 0, none⟩ 1 1 [.int .i64 p] (by rfl) (by rfl) (World.news_of_block (cs := #[.int .i64 p]) (t := 3) (fr := (0, 0)) (tmp_next wz.drew _ _)) (one_int _ _) (by omega) (by unfold maxLen; omega) (by omega) (((HTD.out.alloc (.cells #[.int .i64 (-1)] 3)).alloc (.cells #[.int .i64 p] 3)).lt) _ rfl ?_
            intro gP cP wP ownP groP hatP hltP
            have HTP : Hid (XD w x s k m (o : Int) (.slice pa d.P.length pc) (.slice ea d.E.length ec) (.slice (some ⟨gP, 0, none⟩) (d.P.length + 1) cP) (.slice ea d.E.length ec) (.slice la d.L.length lc) (d.P ++ [p]) d.E d.L aj wP) := ((HTD.out.alloc (.cells #[.int .i64 (-1)] 3)).alloc (.cells #[.int .i64 p] 3)).pushP ownP groP hatP
            have HTM : Hid (wP.heap[wz.heap.size]? = some (.cells #[.int .i64 (-1)] 3 (0, 0))) := tmp_kept groP (tmp_old wz.drew _ _) (fun e => by have h9 := (HTD.out.oP.lt _ e).2; have h8 : wz.drew.heap.size = wz.heap.size := rfl; omega)
            have hS4 := (HCE.out _ _ _ _ _ _ _ HTP.out).2.2
            refine hK.out _ _ (fun _ => hS4) ?_
            clear hK K
            try simp only [Act.put, List.getElem_toArray, List.getElem_cons_succ, List.getElem_cons_zero, List.setIfInBounds_toArray, List.set_cons_zero, List.set_cons_succ]
            refine Till.take (i := 10) (v := .pointer (some ⟨k, 2, none⟩)) rfl (by kernel_rfl) (by kernel_rfl) (by kernel_rfl) (fun _ _ _ h => h) (by decide) (Waits.of (by kernel_rfl)) (by kernel_rfl) (Or.inl ⟨by rfl, fun w hSw => by (obtain ⟨s2, s3⟩ := hSw; go_simp)⟩) hS4 ?_
            try simp only [Act.put, List.getElem_toArray, List.getElem_cons_succ, List.getElem_cons_zero, List.setIfInBounds_toArray, List.set_cons_zero, List.set_cons_succ]
            refine Till.ready (rs := [9]) (by kernel_rfl) (by simp) ?_
            refine Ups.cons rfl (fun K hK => ?_) Ups.nil
            refine step_append_lies _ (by rfl) _ _ _ (by rfl) (k + 1) 3 i3 (.int .i64 0) 1 8 undI3 h3a h3b h3c h3d rfl (by omega) (.slice ea d.E.length ec) d.E.length (intsC d.E) (by rfl) HTP.out.oE ⟨wz.heap.size, 0, none⟩ 1 1 [.int .i64 (-1)] (by rfl) (by rfl) (World.news_of_block (cs := #[.int .i64 (-1)]) (t := 3) (fr := (0, 0)) (HTM.out)) (one_int _ _) (by omega) (by unfold maxLen; omega) (by omega) HTP.out.lt _ rfl ?_
            intro gE cE wE ownE groE hatE hltE
            have HTE : Hid (XD w x s k m (o : Int) (.slice pa d.P.length pc) (.slice ea d.E.length ec) (.slice (some ⟨gP, 0, none⟩) (d.P.length + 1) cP) (.slice (some ⟨gE, 0, none⟩) (d.E.length + 1) cE) (.slice la d.L.length lc) (d.P ++ [p]) (d.E ++ [(-1)]) d.L aj wE) := HTP.out.pushE ownE groE hatE
            have hS8 := (HCE.out _ _ _ _ _ _ _ HTE.out).2.2
            refine hK.out _ _ (fun _ => hS8) ?_
            clear hK K
            try simp only [Act.put, List.getElem_toArray, List.getElem_cons_succ, List.getElem_cons_zero, List.setIfInBounds_toArray, List.set_cons_zero, List.set_cons_succ]
            clear ownE groE hatE hltE ownP groP hatP hltP
            obtain ⟨z0, z1, z2, z3⟩ := HTE.out.cells
            have fz2 := HTE.out.frozen 2
            have fz3 := HTE.out.frozen 3
            refine Till.ready (rs := [11]) (by kernel_rfl) (by simp) ?_
            refine Ups.cons rfl (fun K hK => ?_) Ups.nil
            go_simp
            refine hK.out _ _ (fun h => Bool.noConfusion (Eq.trans (Eq.symm h) (by kernel_rfl : _ = true))) ?_
            clear hK K
            try simp only [Act.put, List.getElem_toArray, List.getElem_cons_succ, List.getElem_cons_zero, List.setIfInBounds_toArray, List.set_cons_zero, List.set_cons_succ]
            refine Till.ready (rs := [12]) (by kernel_rfl) (by simp) ?_
            refine Ups.cons rfl (fun K hK => ?_) Ups.nil
            go_simp
            refine hK.out _ _ (fun h => Bool.noConfusion (Eq.trans (Eq.symm h) (by kernel_rfl : _ = true))) ?_
            clear hK K
            try simp only [Act.put, List.getElem_toArray, List.getElem_cons_succ, List.getElem_cons_zero, List.setIfInBounds_toArray, List.set_cons_zero, List.set_cons_succ]
            refine Till.ready (rs := [13]) (by kernel_rfl) (by simp) ?_
            refine Ups.cons rfl (fun K hK => ?_) Ups.nil
            go_simp
            refine hK.out _ _ (fun h => Bool.noConfusion (Eq.trans (Eq.symm h) (by kernel_rfl : _ = true))) ?_
            clear hK K
            try simp only [Act.put, List.getElem_toArray, List.getElem_cons_succ, List.getElem_cons_zero, List.setIfInBounds_toArray, List.set_cons_zero, List.set_cons_succ]
            refine Till.done (by kernel_rfl) ?_
            clear z0 z1 z2 z3 fz2 fz3
            refine NoPanic.normal ?_
            --@r
            go_wp2_with fail
            go_loopw [14, 24] (fun s14 s24 wy => ∃ (c : Nat) (XX : List Int) (a3 : Nat) (vL : Value), c ≤ tt - f ∧ s24 = .int .i64 ((f + c : Nat) : Int) ∧ s14 = vL ∧ rdAll s p (-1) c a2 = some (XX, a3) ∧ XD w x s k m (o : Int) (.slice (some ⟨gP, 0, none⟩) (d.P.length + 1) cP) (.slice (some ⟨gE, 0, none⟩) (d.E.length + 1) cE) (.slice (some ⟨gP, 0, none⟩) (d.P.length + 1) cP) (.slice (some ⟨gE, 0, none⟩) (d.E.length + 1) cE) vL (d.P ++ [p]) (d.E ++ [(-1)]) (d.L ++ XX) a3 wy) (fun _ s24 _ => tt - (intOf s24).toNat)
            case atStart => exact ⟨0, [], a2, _, Nat.zero_le _, by rw [Nat.add_zero], rfl, rfl, by rw [List.append_nil, ← haj]; exact HTE.out.set⟩
            case round =>
              clear HTE HTP HTD
              obtain ⟨c, XX, a3, vL, hc, rfl, rfl, hrx, hxd⟩ := hrel
              obtain ⟨lb, ld, rfl⟩ := hxd.shapeL
              have HX : Hid (XD w x s k m (o : Int) (.slice (some ⟨gP, 0, none⟩) (d.P.length + 1) cP) (.slice (some ⟨gE, 0, none⟩) (d.E.length + 1) cE) (.slice (some ⟨gP, 0, none⟩) (d.P.length + 1) cP) (.slice (some ⟨gE, 0, none⟩) (d.E.length + 1) cE) (.slice lb (d.L ++ XX).length ld) (d.P ++ [p]) (d.E ++ [(-1)]) (d.L ++ XX) a3 wr) := hxd
              clear hxd
              have HRX : Hid (rdAll s p (-1) c a2 = some (XX, a3)) := hrx
              have ha3 : a3 ≤ 8 * s.size := rdAll_le hrx ha2
              have hlx := rdAll_len hrx
              clear hrx
              have hLLn : (d.L ++ XX).length ≤ 65535 := by rw [List.length_append, HLF.out, hlx]; omega
              clear hlx
              have hbx := rd_bound s a3 p (-1) (by omega) (by omega)
              generalize hLL : d.L ++ XX = LL at *
              have HLL : Hid (d.L ++ XX = LL) := hLL
              clear hLL
              by_cases hcl : c < tt - f
              · have hlt2 : f + c < tt := by omega
                have HDN : Hid (¬ rdE s a3 p (-1) = 0 → decP s a b r = none) := fun hne => HDPX.out (rdAll_none (tt - f) (rdAll_stop HRX.out hne) (by omega))
                have HDO : Hid (rdE s a3 p (-1) = 0 → rdAll s p (-1) (c + 1) a2 = some (XX ++ [rdV s a3 p (-1)], rdA s a3 p (-1))) := fun h0 => rdAll_some HRX.out h0
                clear HRX
                generalize hfc : f + c = fc at *
                have HFC : Hid (f + c = fc) := hfc
                clear hfc
                have kr := refrice_all s hs a3 ha3 wr x p HX.out.rd
                have e1 : rdE s a3 p (-1) = (ricE s a3 p) := by unfold rdE; rw [if_pos rfl]
                have e2 : rdV s a3 p (-1) = (ricV s a3 p) := by unfold rdV; rw [if_pos rfl]
                have e3 : rdA s a3 p (-1) = (ricA s a3 p) := by unfold rdA; rw [if_pos rfl]
                rw [← e1, ← e2, ← e3] at kr
                clear e1 e2 e3
                generalize hre : rdE s a3 p (-1) = er at *
                generalize hrv : rdV s a3 p (-1) = vr at *
                generalize hra : rdA s a3 p (-1) = a4 at *
                clear hre hrv hra
                go_wp2_with fail
                refine kr.mono ?_
                rintro e w5 ⟨rfl, h5, h5s⟩
                have HX5 : Hid (XD w x s k m (o : Int) (.slice (some ⟨gP, 0, none⟩) (d.P.length + 1) cP) (.slice (some ⟨gE, 0, none⟩) (d.E.length + 1) cE) (.slice (some ⟨gP, 0, none⟩) (d.P.length + 1) cP) (.slice (some ⟨gE, 0, none⟩) (d.E.length + 1) cE) (.slice lb LL.length ld) (d.P ++ [p]) (d.E ++ [(-1)]) LL a4 w5) := HX.out.read h5 h5s
                clear h5 h5s kr HX
                by_cases h0 : er = 0
                · have HRN : Hid (rdAll s p (-1) (c + 1) a2 = some (XX ++ [vr], a4)) := HDO.out h0
                  subst h0
                  clear HDO HDN
                  go_wp2_with (at_builtin; refine wpList_append_lies _ rfl (.tmp 170) (.tmp 172) 22 rfl (k + 1) 3 i3 (.int .i64 0) 1 8 undI3 h3a h3b h3c h3d rfl (by decide) (.slice lb LL.length ld) LL.length (intsC LL) rfl (HX5.out.alloc _).oL ⟨w5.heap.size, 0, none⟩ 1 1 [.int .i64 vr] rfl rfl (World.news_of_block (cs := #[.int .i64 vr]) (t := 3) (fr := (0, 0)) (tmp_new w5 _)) (one_int _ _) (by omega) (by unfold maxLen; omega) (by omega) (HX5.out.alloc _).lt _ rfl ?_; intro gL cL wL ownL groL hatL hltL)
                  have HXL : Hid (XD w x s k m (o : Int) (.slice (some ⟨gP, 0, none⟩) (d.P.length + 1) cP) (.slice (some ⟨gE, 0, none⟩) (d.E.length + 1) cE) (.slice (some ⟨gP, 0, none⟩) (d.P.length + 1) cP) (.slice (some ⟨gE, 0, none⟩) (d.E.length + 1) cE) (.slice (some ⟨gL, 0, none⟩) (LL.length + 1) cL) (d.P ++ [p]) (d.E ++ [(-1)]) (LL ++ [vr]) a4 wL) := (HX5.out.alloc _).pushL ownL groL hatL
                  clear ownL groL hatL hltL
                  go_wp2_with fail
                  go_roundw
                  case rel => exact ⟨c + 1, XX ++ [vr], a4, _, by omega, by have := HFC.out; rw [← this]; go_num, rfl, HRN.out, by rw [← List.append_assoc, HLL.out]; exact HXL.out⟩
                  case measure => have := HFC.out; simp [intOf]; omega
                · have hne : (er != 0) = true := by rw [bne_iff_ne]; exact h0
                  have HNO : Hid (decP s a b r = none) := HDN.out h0
                  clear HDO HDN
                  have hxr := HX5.out.rb
                  have u0 : w5.cell? ⟨w.heap.size, 0, none⟩ = some (.int .i64 0) := by rw [cell_of_row _ _ _ _ _ _ hxr]; rfl
                  have fu0 : w5.frozen? ⟨w.heap.size, 0, none⟩ = false := by simp [World.frozen?, hxr]
                  have u1 : w5.cell? ⟨w.heap.size, 1, none⟩ = some (.int .i64 0) := by rw [cell_of_row _ _ _ _ _ _ hxr]; rfl
                  have fu1 : w5.frozen? ⟨w.heap.size, 1, none⟩ = false := by simp [World.frozen?, hxr]
                  have u2 : w5.cell? ⟨w.heap.size, 2, none⟩ = some (.slice none 0 0) := by rw [cell_of_row _ _ _ _ _ _ hxr]; rfl
                  have fu2 : w5.frozen? ⟨w.heap.size, 2, none⟩ = false := by simp [World.frozen?, hxr]
                  have u3 : w5.cell? ⟨w.heap.size, 3, none⟩ = some (.slice none 0 0) := by rw [cell_of_row _ _ _ _ _ _ hxr]; rfl
                  have fu3 : w5.frozen? ⟨w.heap.size, 3, none⟩ = false := by simp [World.frozen?, hxr]
                  clear hxr
                  go_wp2_with fail
                  generalize hwf : World.setCell _ _ _ = wf
                  have hH : wf.heap[w.heap.size]? = some (.cells #[.int .i64 0, .int .i64 0, .slice none 0 0, .slice none 0 0] 24 (0, 0)) := by rw [← hwf]; exact set4_a _ _ _ _ _ HX5.out.rb
                  have hS : Stays (only x) w wf := by rw [← hwf]; exact set4_c _ _ _ _ _ _ _ (Nat.le_refl _) HX5.out.st
                  refine bodyPost_ret (v := .tuple #[.slice none 0 0, zRice, .int .i64 2]) ?_ rfl (DPost.none_ HNO.out ⟨rfl, hS⟩)
                  rw [results_mid rfl]
                  have hl0 := run_loadVar_row (P := Try.prog) wf (w.heap.size) 24 24 #[.int .i64 0, .int .i64 0, .slice none 0 0, .slice none 0 0] (0, 0) _ hH Try.underlying24 rfl info_Rice
                  simp [asAddr, Result.andThen, hl0]
              · have hce : c = tt - f := by omega
                subst hce
                have HPN : Hid (rdParts s m b o r (i + 1) a1 = some ⟨d.L ++ XX, d.P ++ [p], d.E ++ [(-1)], a3⟩) := HPX.out XX a3 HRX.out
                have hft : f + (tt - f) = tt := by omega
                go_wp2_with fail
                go_roundw
                case rel => exact ⟨i + 1, ⟨d.L ++ XX, d.P ++ [p], d.E ++ [(-1)], a3⟩, _, _, _, by omega, rfl, by go_num, HPN.out, by show XD _ _ _ _ _ _ _ _ _ _ _ _ _ (d.L ++ XX) _ _; rw [HLL.out]; exact HX.out⟩
                case measure => simp [intOf]; omega
            --@/r


      · have hne : (ep != 0) = true := by rw [bne_iff_ne]; exact he
        have HNO : Hid (decP s a b r = none) := HPH.out (by rw [HHD.out, if_neg he])
        clear HHD HPH HPF HPS
        have hxr := HX5.out.rb
        have u0 : w5.cell? ⟨w.heap.size, 0, none⟩ = some (.int .i64 0) := by rw [cell_of_row _ _ _ _ _ _ hxr]; rfl
        have fu0 : w5.frozen? ⟨w.heap.size, 0, none⟩ = false := by simp [World.frozen?, hxr]
        have u1 : w5.cell? ⟨w.heap.size, 1, none⟩ = some (.int .i64 0) := by rw [cell_of_row _ _ _ _ _ _ hxr]; rfl
        have fu1 : w5.frozen? ⟨w.heap.size, 1, none⟩ = false := by simp [World.frozen?, hxr]
        have u2 : w5.cell? ⟨w.heap.size, 2, none⟩ = some (.slice none 0 0) := by rw [cell_of_row _ _ _ _ _ _ hxr]; rfl
        have fu2 : w5.frozen? ⟨w.heap.size, 2, none⟩ = false := by simp [World.frozen?, hxr]
        have u3 : w5.cell? ⟨w.heap.size, 3, none⟩ = some (.slice none 0 0) := by rw [cell_of_row _ _ _ _ _ _ hxr]; rfl
        have fu3 : w5.frozen? ⟨w.heap.size, 3, none⟩ = false := by simp [World.frozen?, hxr]
        clear hxr
        go_wp2_with fail
        generalize hwf : World.setCell _ _ _ = wf
        have hH : wf.heap[w.heap.size]? = some (.cells #[.int .i64 0, .int .i64 0, .slice none 0 0, .slice none 0 0] 24 (0, 0)) := by rw [← hwf]; exact set4_a _ _ _ _ _ HX5.out.rb
        have hS : Stays (only x) w wf := by rw [← hwf]; exact set4_c _ _ _ _ _ _ _ (Nat.le_refl _) HX5.out.st
        refine bodyPost_ret (v := .tuple #[.slice none 0 0, zRice, .int .i64 2]) ?_ rfl (DPost.none_ HNO.out ⟨rfl, hS⟩)
        rw [results_mid rfl]
        have hl0 := run_loadVar_row (P := Try.prog) wf (w.heap.size) 24 24 #[.int .i64 0, .int .i64 0, .slice none 0 0, .slice none 0 0] (0, 0) _ hH Try.underlying24 rfl info_Rice
        simp [asAddr, Result.andThen, hl0]

    · have hjn : i = N := by omega
      subst hjn
      have HYS : Hid (decP s a b r = some (⟨m, o, d.P, d.E⟩, d.L, d.a)) := HDP1.out d HRP.out
      have HNU : Hid ((∀ x ∈ d.L, -9223372036854775808 ≤ x ∧ x ≤ 9223372036854775807) ∧ (∀ x ∈ d.P, -9223372036854775808 ≤ x ∧ x ≤ 9223372036854775807) ∧ (∀ x ∈ d.E, -9223372036854775808 ≤ x ∧ x ≤ 9223372036854775807)) := rdParts_num hm0 hm1 HRP.out
      have HLB : Hid (d.L.length ≤ 65535) := HLE.out
      have hxr := HX.out.rb
      have u0 : wr.cell? ⟨w.heap.size, 0, none⟩ = some (.int .i64 0) := by rw [cell_of_row _ _ _ _ _ _ hxr]; rfl
      have fu0 : wr.frozen? ⟨w.heap.size, 0, none⟩ = false := by simp [World.frozen?, hxr]
      have u1 : wr.cell? ⟨w.heap.size, 1, none⟩ = some (.int .i64 0) := by rw [cell_of_row _ _ _ _ _ _ hxr]; rfl
      have fu1 : wr.frozen? ⟨w.heap.size, 1, none⟩ = false := by simp [World.frozen?, hxr]
      have u2 : wr.cell? ⟨w.heap.size, 2, none⟩ = some (.slice none 0 0) := by rw [cell_of_row _ _ _ _ _ _ hxr]; rfl
      have fu2 : wr.frozen? ⟨w.heap.size, 2, none⟩ = false := by simp [World.frozen?, hxr]
      have u3 : wr.cell? ⟨w.heap.size, 3, none⟩ = some (.slice none 0 0) := by rw [cell_of_row _ _ _ _ _ _ hxr]; rfl
      have fu3 : wr.frozen? ⟨w.heap.size, 3, none⟩ = false := by simp [World.frozen?, hxr]
      have hkn : ¬ k = w.heap.size := by have := HX.out.hk; omega
      clear hxr
      go_wp2_with fail
      go_region
      go_wp2_with fail
      generalize hwf : World.setCell _ _ _ = wf
      have hH : wf.heap[w.heap.size]? = some (.cells #[.int .i64 m, .int .i64 (o : Int), .slice pa d.P.length pc, .slice ea d.E.length ec] 24 (0, 0)) := by rw [← hwf]; exact set4_a _ _ _ _ _ HX.out.rb
      have hS : Stays (only x) w wf := by rw [← hwf]; exact set4_c _ _ _ _ _ _ _ (Nat.le_refl _) HX.out.st
      have hO : Stays (only w.heap.size) wr wf := by rw [← hwf]; exact set4_o _ _ _ _ _
      have hkw := HX.out.hk
      have hxw := HX.out.hx
      have ap : ∀ (ao : Option Addr) (c : Nat) (L : List Int), wr.ownsRow (k + 1) 3 1 (.slice ao L.length c) L.length (intsC L) → L.length ≤ 17592186044415 → (∀ x ∈ L, -9223372036854775808 ≤ x ∧ x ≤ 9223372036854775807) → IntsAt wf ao L := fun ao c L ho hl hn => (own_ints ho hl hn).stays hO (fun g hg e => by
        have h1 := (ho.lt g (by cases ao with | none => cases hg | some a => exact hg)).1
        unfold only at e; omega)
      have hdr : Below wf.heap.size wf wf.drew := ⟨rfl, rfl, rfl, Nat.le_refl _, fun _ _ => rfl⟩
      refine bodyPost_ret (v := .tuple #[.slice la d.L.length lc, .agg #[.int .i64 m, .int .i64 (o : Int), .slice pa d.P.length pc, .slice ea d.E.length ec], .int .i64 0]) ?_ rfl (DPost.some_ HYS.out ⟨la, lc, pa, pc, ea, ec, rfl, (ap _ _ _ HX.out.oL (by have := HLB.out; omega) HNU.out.1).below hdr, ⟨(ap _ _ _ HX.out.oP (by omega) HNU.out.2.1).below hdr, (ap _ _ _ HX.out.oE (by omega) HNU.out.2.2).below hdr, ?_, ?_, ?_, ?_⟩, ?_, hS.drew⟩)
      · rw [results_mid rfl]
        have hl0 := run_loadVar_row (P := Try.prog) wf.drew (w.heap.size) 24 24 #[.int .i64 m, .int .i64 (o : Int), .slice pa d.P.length pc, .slice ea d.E.length ec] (0, 0) _ hH Try.underlying24 rfl info_Rice
        simp [asAddr, Result.andThen, hl0]
      · show (-9223372036854775808 : Int) ≤ m; omega
      · show m ≤ 9223372036854775807; omega
      · show (-9223372036854775808 : Int) ≤ (o : Int); omega
      · show (o : Int) ≤ 9223372036854775807; omega
      · show Rr wf x s d.a
        unfold Rr; rw [hO.block _ HX.out.rd.lt (fun e => by unfold only at e; omega)]; exact HX.out.rd

theorem xdec_all (x : Nat) (s : ByteArray) (hs : s.size ≤ 1000000000000000000) (a : Nat) (ha : a ≤ 8 * s.size) (b r : Int) (hok : argOk b r) (w : World) (h : Rr w x s a) :
    Calls Try.prog 22 #[.pointer (some ⟨x, 0, none⟩), .int .i64 b, .int .i64 r] w fun en w' => DPost (decP s a b r) (en = .returned (.tuple #[.slice none 0 0, zRice, .int .i64 2]) ∧ Stays (only x) w w') (fun c L a2 => ∃ la lc pa pc ea ec, en = .returned (.tuple #[.slice la L.length lc, riceV c pa pc ea ec, .int .i64 0]) ∧ IntsAt w' la L ∧ RcAt w' c pa ea ∧ Rr w' x s a2 ∧ Stays (only x) w w') := by
  cases ht : rdTop s a b r with
  | none =>
    refine (xdec_top x s hs a ha b r hok w h ht).mono fun e w' hh => ?_
    exact DPost.none_ (by unfold decP; rw [ht]) hh
  | some p =>
    obtain ⟨m, o, a1⟩ := p
    obtain ⟨b', r', o', rfl, rfl, rfl, hC⟩ := Cut.of (rdTop_cut ht)
    exact xdec_main x s hs a ha b' o' r' hC m a1 ht hok w h

end Go.Proofs.Ytdlakbgcflekkaa
