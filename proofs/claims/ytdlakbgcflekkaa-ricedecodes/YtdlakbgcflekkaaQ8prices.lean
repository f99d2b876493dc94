/- Own text: the walk of the program's pricesOf. -/
import Derived.Test.YtdlakbgcflekkaaQ8merged
namespace Go.Proofs.Ytdlakbgcflekkaa
open Go.RowKit
set_option linter.unusedSimpArgs false
set_option linter.unusedVariables false

theorem infoZ15 : (Try.prog.info? 109).map (fun i => (i.zero, i.size, i.bytes)) = some (some (.agg #[.int .i64 0, .int .i64 0, .int .i64 0, .int .i64 0, .int .i64 0, .int .i64 0, .int .i64 0, .int .i64 0, .int .i64 0, .int .i64 0, .int .i64 0, .int .i64 0, .int .i64 0, .int .i64 0, .int .i64 0]), 15, 120) := by kernel_rfl
theorem undProw : Try.prog.underlying 93 = some (.slice 109) := by kernel_rfl
theorem make_px (N : Nat) (hN : N ≤ 32768) (w : World) : (Instr.makeSlice 93 (.int .i64 (N : Int)) (.int .i64 (N : Int))).run Try.prog w = .ok (.slice (some ⟨w.heap.size, 0, none⟩) N N) (w.alloc (.cells (madeCells #[.int .i64 0, .int .i64 0, .int .i64 0, .int .i64 0, .int .i64 0, .int .i64 0, .int .i64 0, .int .i64 0, .int .i64 0, .int .i64 0, .int .i64 0, .int .i64 0, .int .i64 0, .int .i64 0, .int .i64 0] (N * 15)) 109)) := by
  have h := infoZ15
  cases hq : Try.prog.info? 109 with
  | none => rw [hq] at h; cases h
  | some i =>
    rw [hq] at h
    simp only [Option.map_some, Option.some.injEq, Prod.mk.injEq] at h
    have hh := run_make (P := Try.prog) w 93 109 i _ undProw hq h.1 .i64 .i64 (N : Int) (N : Int) (by omega) (Int.le_refl _) (by rw [h.2.2]; omega) (by omega)
    rw [h.2.1] at hh
    simpa [Value.cells] using hh
theorem PxB.zero (w : World) (N : Nat) : PxB (w.alloc (.cells (madeCells #[.int .i64 0, .int .i64 0, .int .i64 0, .int .i64 0, .int .i64 0, .int .i64 0, .int .i64 0, .int .i64 0, .int .i64 0, .int .i64 0, .int .i64 0, .int .i64 0, .int .i64 0, .int .i64 0, .int .i64 0] (N * 15)) 109)) w.heap.size N (fun _ _ => 0) := by
  refine ⟨_, heap_alloc_new _ _, fun i k hi hk => ?_⟩
  have hlt : i * 15 + k < N * 15 := by
    have := Nat.mul_le_mul_right 15 (show i + 1 ≤ N by omega)
    omega
  have hm : (i * 15 + k) % 15 = k := by omega
  simp only [madeCells, Array.getElem?_map, Array.getElem?_range, hlt, if_true, Option.map_some]
  have hs : (#[.int .i64 0, .int .i64 0, .int .i64 0, .int .i64 0, .int .i64 0, .int .i64 0, .int .i64 0, .int .i64 0, .int .i64 0, .int .i64 0, .int .i64 0, .int .i64 0, .int .i64 0, .int .i64 0, .int .i64 0] : Array Value).size = 15 := rfl
  rw [hs, hm]
  have : k = 0 ∨ k = 1 ∨ k = 2 ∨ k = 3 ∨ k = 4 ∨ k = 5 ∨ k = 6 ∨ k = 7 ∨ k = 8 ∨ k = 9 ∨ k = 10 ∨ k = 11 ∨ k = 12 ∨ k = 13 ∨ k = 14 := by omega
  rcases this with rfl | rfl | rfl | rfl | rfl | rfl | rfl | rfl | rfl | rfl | rfl | rfl | rfl | rfl | rfl <;> rfl
/-- prices that are being reckoned. -/
structure PS (w : World) (N d r g : Nat) (G : Nat → Nat → Nat) (wx : World) : Prop where
  px : PxB wx g N G
  bx : wx.heap[w.heap.size]? = some (.cells #[.int .i64 (N : Int), .int .i64 (d : Int), .int .i64 (r : Int)] 66 (0, 0))
  below : Below w.heap.size w wx
  lt : w.heap.size < g
theorem PS.low {w wx w' : World} {N d r g : Nat} {G : Nat → Nat → Nat} (h : PS w N d r g G wx) (hb : Below wx.heap.size wx w') : PS w N d r g G w' :=
  ⟨h.px.below hb, by rw [hb.block _ (lt_of_block h.bx)]; exact h.bx, h.below.trans (hb.mono h.below.size), h.lt⟩
theorem PS.set {w wx : World} {N d r g : Nat} {G : Nat → Nat → Nat} (h : PS w N d r g G wx) (i k v : Nat) (hi : i < N) (hk : k < 15) : PS w N d r g (fun i' k' => if i' = i ∧ k' = k then v else G i' k') (wx.setCell ⟨g, i * 15 + k, none⟩ (.int .i64 (v : Int))) :=
  ⟨h.px.set i k v hi hk, by rw [Below.heap_setCell _ _ _ _ (fun e => by have := h.lt; have e' : w.heap.size = g := e; omega)]; exact h.bx, h.below.setCell (Nat.le_of_lt h.lt) _, h.lt⟩
theorem PS.congr {w wx : World} {N d r g : Nat} {G : Nat → Nat → Nat} (h : PS w N d r g G wx) (G' : Nat → Nat → Nat) (hg : ∀ i k, i < N → k < 15 → G i k = G' i k) : PS w N d r g G' wx :=
  ⟨h.px.congr G' hg, h.bx, h.below, h.lt⟩
set_option maxRecDepth 20000 in
set_option maxHeartbeats 3200000 in
theorem pricesOf_spec (b o r : Nat) (h : Cut b o r) (l : List Int) (hn : l.length = b - r) (hs : ShX l) (lo : Option Addr) (cap : Nat) (hc : l.length ≤ cap) (h0 : lo = none → cap = 0) (w : World) (hl : IntsAt w lo l) :
    Calls Try.prog 51 #[.slice lo l.length cap, cutV ((2 ^ o : Nat) : Int) ((b / 2 ^ o : Nat) : Int) (r : Int)] w fun en w' => ∃ g, en = .returned (.slice (some ⟨g, 0, none⟩) (2 ^ o) (2 ^ o)) ∧ PxB w' g (2 ^ o) (fun i k => costN (partN l b o r i) k) ∧ w.heap.size ≤ g ∧ Below w.heap.size w w' := by
  have hp := pow15 o h.o15
  have hmk := make_px (2 ^ o) hp.2
  have KP : Hid (∀ i : Nat, i < 2 ^ o → ∀ wx, Below w.heap.size w wx → Calls Try.prog 35 #[cutV ((2 ^ o : Nat) : Int) ((b / 2 ^ o : Nat) : Int) (r : Int), .slice lo l.length cap, .int .i64 (i : Int)] wx fun e w' => ∃ xo, e = .returned (.slice xo (partN l b o r i).length (partN l b o r i).length) ∧ Below wx.heap.size wx w' ∧ IntsAt w xo (partN l b o r i)) := fun i hi wx hbx =>
    (partL_spec l b o r i h hi lo cap hn hc h0 _ wx (hl.below hbx)).mono fun e w' hh => by
      obtain ⟨xo, h1, h2, h3, h4, h5⟩ := hh
      refine ⟨xo, h1, h2, ?_⟩
      have hlen := partN_length l h hn i hi
      refine hl.part _ _ ?_ xo (fun bb off e hlt => h5 bb off e (by rw [hlen]; exact hlt))
      have := frN_bound h (i + 1) hi; have := frN_mono b o r i
      omega
  have HSP : Hid (∀ i, ShX (partN l b o r i)) := fun i => hs.part b o r i
  have HB0 : Hid (∀ N d : Nat, PS w N d r (w.heap.size + 1) (fun _ _ => 0) ((w.alloc (.cells #[.int .i64 (N : Int), .int .i64 (d : Int), .int .i64 (r : Int)] 66)).alloc (.cells (madeCells #[.int .i64 0, .int .i64 0, .int .i64 0, .int .i64 0, .int .i64 0, .int .i64 0, .int .i64 0, .int .i64 0, .int .i64 0, .int .i64 0, .int .i64 0, .int .i64 0, .int .i64 0, .int .i64 0, .int .i64 0] (N * 15)) 109))) := fun N d => by
    have hz := PxB.zero (w.alloc (.cells #[.int .i64 (N : Int), .int .i64 (d : Int), .int .i64 (r : Int)] 66)) N
    rw [show (w.alloc (.cells #[.int .i64 (N : Int), .int .i64 (d : Int), .int .i64 (r : Int)] 66)).heap.size = w.heap.size + 1 from by simp] at hz
    exact ⟨hz, heap_two _ _ _, ((Below.refl _ _).alloc (Nat.le_refl _) _).alloc (by simp) _, by omega⟩
  generalize hFF : (fun i k => costN (partN l b o r i) k) = F at *
  have HF : Hid (∀ i k, costN (partN l b o r i) k = F i k) := fun i k => by rw [← hFF]
  clear h hs hl hc h0 hn hFF
  generalize hNN : 2 ^ o = N at *
  generalize b / N = d at *
  clear hNN
  have hn32 := hp.2
  go_enter Try.func51, Try.ntmps51
  go_wp2_with fail
  generalize hwa : World.alloc (World.alloc _ _) _ = wa at *
  have HA : Hid (PS w N d r (w.heap.size + 1) (fun _ _ => 0) wa) := by rw [← hwa]; exact HB0.out N d
  clear hwa HB0 hmk
  generalize hg1 : w.heap.size + 1 = g at *
  clear hg1
  go_loopw [6, 7, 8, 14, 21] (fun s6 s7 s8 s14 s21 wr => ∃ i : Nat, i ≤ N ∧ s14 = .int .i64 (i : Int) ∧ PS w N d r g (fun i' k' => if i' < i then F i' k' else 0) wr) (fun _ _ _ s14 _ _ => N - (intOf s14).toNat)
  case atStart => exact ⟨0, Nat.zero_le _, rfl, by simpa using HA.out⟩
  case round =>
    clear HA
    obtain ⟨i, hi, rfl, hps⟩ := hrel
    have HA : Hid (PS w N d r g (fun i' k' => if i' < i then F i' k' else 0) wr) := hps
    clear hps
    by_cases hlt : i < N
    · have kp := KP.out i hlt wr HA.out.below
      have y0 : wr.cell? ⟨w.heap.size, 0, none⟩ = some (.int .i64 (N : Int)) := by rw [cell_of_row _ _ _ _ _ _ HA.out.bx]; rfl
      have y1 : wr.cell? ⟨w.heap.size, 1, none⟩ = some (.int .i64 (d : Int)) := by rw [cell_of_row _ _ _ _ _ _ HA.out.bx]; rfl
      have y2 : wr.cell? ⟨w.heap.size, 2, none⟩ = some (.int .i64 (r : Int)) := by rw [cell_of_row _ _ _ _ _ _ HA.out.bx]; rfl
      have HSX := HSP.out i
      have HFX : Hid (∀ k, costN (partN l b o r i) k = F i k) := fun k => HF.out i k
      have HSX' : Hid (ShX (partN l b o r i)) := HSX
      clear HSX
      generalize partN l b o r i = X at *
      go_wp2_with fail
      refine kp.mono ?_
      rintro e w3 ⟨xo, rfl, hb3, hX⟩
      have HA3 : Hid (PS w N d r g (fun i' k' => if i' < i then F i' k' else 0) w3) := HA.out.low hb3
      have HX : Hid (IntsAt w xo X) := hX
      clear kp hb3 hX HA y0 y1 y2
      go_wp2_with fail
      go_loopw [8, 21] (fun s8 s21 wz => ∃ k : Nat, k ≤ 15 ∧ s21 = .int .i64 (k : Int) ∧ PS w N d r g (fun i' k' => if i' < i ∨ (i' = i ∧ k' < k) then F i' k' else 0) wz ) (fun _ s21 _ => 15 - (intOf s21).toNat)
      case atStart => exact ⟨0, Nat.zero_le _, rfl, HA3.out.congr _ (fun i' k' _ _ => by simp)⟩
      case round =>
        clear HA3
        obtain ⟨k, hk, rfl, hps⟩ := hrel
        have HA : Hid (PS w N d r g (fun i' k' => if i' < i ∨ (i' = i ∧ k' < k) then F i' k' else 0) wr) := hps
        clear hps
        by_cases hkl : k < 15
        · have hcI : costI X (k : Int) = (F i k : Int) := by
            unfold costI
            rw [if_neg (by omega)]
            have := HFX.out k
            rw [show ((k : Int)).toNat = k by omega, this]
          have KC : Hid (∀ wx, Hid (PS w N d r g (fun i' k' => if i' < i ∨ (i' = i ∧ k' < k) then F i' k' else 0) wx) → Calls Try.prog 28 #[.slice xo X.length X.length, .int .i64 (k : Int)] wx fun e w' => e = .returned (.int .i64 (F i k : Int)) ∧ Hid (PS w N d r g (fun i' k' => if i' < i ∨ (i' = i ∧ k' < k) then F i' k' else 0) w')) := fun wx hh => (cost_spec X k xo X.length HSX'.out wx (HX.out.below hh.out.below)).mono fun e w' hx => by
            obtain ⟨h1, n, rfl⟩ := hx
            exact ⟨by rw [h1, hcI], hh.out.low (below_drewN _ _)⟩
          have HD : Hid (PS w N d r g (fun i' k' => if i' < i ∨ (i' = i ∧ k' < k) then F i' k' else 0) wr.drew) := HA.out.low ⟨rfl, rfl, rfl, Nat.le_refl _, fun _ _ => rfl⟩
          have HCL : Hid (∀ wx, Hid (PS w N d r g (fun i' k' => if i' < i ∨ (i' = i ∧ k' < k) then F i' k' else 0) wx) → (∃ v : Int, wx.cell? ⟨g, i * 15 + k, none⟩ = some (.int .i64 v)) ∧ wx.frozen? ⟨g, i * 15 + k, none⟩ = false) := fun wx hh => ⟨⟨_, hh.out.px.cell i k hlt hkl⟩, hh.out.px.frozen _⟩
          have HNX : Hid (∀ i' k', (if i' = i ∧ k' = k then F i k else if i' < i ∨ (i' = i ∧ k' < k) then F i' k' else 0) = (if i' < i ∨ (i' = i ∧ k' < k + 1) then F i' k' else 0)) := fun i' k' => by
            by_cases e : i' = i ∧ k' = k
            · obtain ⟨rfl, rfl⟩ := e
              rw [if_pos ⟨rfl, rfl⟩, if_pos (Or.inr ⟨rfl, by omega⟩)]
            · rw [if_neg e]
              by_cases e2 : i' < i ∨ (i' = i ∧ k' < k)
              · rw [if_pos e2, if_pos (by omega)]
              · rw [if_neg e2, if_neg (by omega)]
          clear hcI HA
          generalize hv : F i k = v at *
          go_wp2_with fail
          go_region_held3 (fun _ => True) (trivial)
            ((go_at_call 28; refine (KC.out _ (by assumption)).mono ?_; rintro e w5 ⟨rfl, h5⟩; obtain ⟨⟨v5, y5⟩, z5⟩ := HCL.out _ h5))
          go_wp2_with fail
          go_roundw
          case rel =>
            exact ⟨k + 1, by omega, by go_num, (h5.out.set i k v hlt hkl).congr _ (fun i' k' _ _ => HNX.out i' k')⟩
          case measure => simp [intOf]; omega
        · have hk15 : k = 15 := by omega
          subst hk15
          go_wp2_with fail
          go_roundw
          case rel => exact ⟨i + 1, by omega, by go_num, HA.out.congr _ (fun i' k' h1 h2 => by
            by_cases e : i' < i ∨ (i' = i ∧ k' < 15)
            · rw [if_pos e, if_pos (by omega)]
            · rw [if_neg e, if_neg (by omega)])⟩
          case measure => simp [intOf]; omega
    · have hiN : i = N := by omega
      subst hiN
      go_wp2_with fail
      go_ret
      exact ⟨g, rfl, HA.out.px.congr _ (fun i' k' h1 h2 => by rw [if_pos h1]), Nat.le_of_lt HA.out.lt, HA.out.below⟩

end Go.Proofs.Ytdlakbgcflekkaa
