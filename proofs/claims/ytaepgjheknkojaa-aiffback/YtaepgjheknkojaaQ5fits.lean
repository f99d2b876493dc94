/- Own text: the walks of the program's hasWidth and Fits. -/
import Derived.Test.YtaepgjheknkojaaG14x
namespace Go.Proofs.Ytaepgjheknkojaa
open Go.RowKit
set_option linter.unusedSimpArgs false
set_option linter.unusedVariables false

set_option maxRecDepth 20000 in
set_option maxHeartbeats 1600000 in
theorem hasWidth_spec (f wd : Int) (h1 : 1 ≤ f) (h5 : f ≤ 5) (h4 : 4 ≤ wd) (h32 : wd ≤ 32) (w : World) :
    Calls Try.prog 30 #[.int .i64 f, .int .i64 wd] w fun e w' => e = .returned (.bool (fitB f wd)) ∧ w' = w := by
  have hf : f = 1 ∨ f = 2 ∨ f = 3 ∨ f = 4 ∨ f = 5 := by omega
  rcases hf with rfl | rfl | rfl | rfl | rfl
  · have e : fitB 1 wd = (wd % 8 == 0) := rfl
    rw [e]
    generalize hx : (wd % 8 == 0) = x
    have HX : Hid ((wd % 8 == 0) = x) := hx
    clear hx e
    go_enter Try.func30, Try.ntmps30
    go_wp2_with fail
    go_ret
    exact ⟨by rw [← HX.out]; rfl, rfl⟩
  · have e : fitB 2 wd = (wd % 8 == 0) := rfl
    rw [e]
    generalize hx : (wd % 8 == 0) = x
    have HX : Hid ((wd % 8 == 0) = x) := hx
    clear hx e
    go_enter Try.func30, Try.ntmps30
    go_wp2_with fail
    go_ret
    exact ⟨by rw [← HX.out]; rfl, rfl⟩
  · have e : fitB 3 wd = decide (wd ≤ 24) := rfl
    rw [e]
    go_enter Try.func30, Try.ntmps30
    go_wp2_with fail
    go_ret
    exact ⟨rfl, rfl⟩
  · have e : fitB 4 wd = decide (wd ≤ 24) := rfl
    rw [e]
    go_enter Try.func30, Try.ntmps30
    go_wp2_with fail
    go_ret
    exact ⟨rfl, rfl⟩
  · have e : fitB 5 wd = decide (8 ≤ wd ∧ wd ≤ 24) := rfl
    rw [e]
    by_cases g8 : 8 ≤ wd
    · have e2 : decide (8 ≤ wd ∧ wd ≤ 24) = decide (wd ≤ 24) := by
        by_cases g : wd ≤ 24
        · rw [decide_eq_true ⟨g8, g⟩, decide_eq_true g]
        · rw [decide_eq_false (fun c => g c.2), decide_eq_false g]
      rw [e2]
      go_enter Try.func30, Try.ntmps30
      go_wp2_with fail
      go_ret
      exact ⟨rfl, rfl⟩
    · rw [decide_eq_false (fun c => g8 c.1)]
      go_enter Try.func30, Try.ntmps30
      go_wp2_with fail
      go_ret
      exact ⟨rfl, rfl⟩

theorem check_head_ok (p : Pcm) (h : checkN p = 0) : 1 ≤ p.rate ∧ p.rate ≤ 655350 ∧ 1 ≤ p.ch ∧ p.ch ≤ 8 ∧ 4 ≤ p.wd ∧ p.wd ≤ 32 ∧ (p.pl.length : Int) = p.ch := by
  cases hh : headB p with
  | true => exact head_parts p hh
  | false => rw [check_head p hh] at h; exact absurd h (by decide)

set_option maxRecDepth 20000 in
set_option maxHeartbeats 3200000 in
theorem fits5_spec (f : Int) (p : Pcm) (ao : Option Addr) (cap : Nat) (w : World) (hr : RowsAt w ao p.pl) :
    Calls Try.prog 12 #[.int .i64 f, pcmV p ao cap] w fun e w' => e = .returned (.int .i64 (fitsN f p)) ∧ Below w.heap.size w w' := by
  have hl := hr.len
  have HB0 : Hid (Bx w p ao cap (w.alloc (.cells (pcmC p ao cap) 24))) := Bx.new w p ao cap
  have d0 := HB0.out.c0
  have d1 := HB0.out.c1
  have d2 := HB0.out.c2
  have d3 := HB0.out.c3
  have kc : Calls Try.prog 29 #[pcmV p ao cap] (w.alloc (.cells (pcmC p ao cap) 24)) fun e w' => e = .returned (.int .i64 (checkN p)) ∧ Hid (Bx w p ao cap w') :=
    (check_spec p ao cap _ (hr.below HB0.out.below)).mono fun e w' h => ⟨h.1, HB0.out.next h.2⟩
  clear hr
  by_cases g1 : f < 1
  · have hd : fitsN f p = 1 := by unfold fitsN; rw [show formatB f = false from decide_eq_false (by omega)]; rfl
    rw [hd]
    clear kc
    go_enter Try.func12, Try.ntmps12
    go_wp2_with fail
    go_ret
    exact ⟨rfl, HB0.out.below⟩
  · by_cases g5 : 5 < f
    · have hd : fitsN f p = 1 := by unfold fitsN; rw [show formatB f = false from decide_eq_false (by omega)]; rfl
      rw [hd]
      clear kc
      go_enter Try.func12, Try.ntmps12
      go_wp2_with fail
      go_ret
      exact ⟨rfl, HB0.out.below⟩
    · have hd : fitsN f p = if checkN p = 0 then (if fitB f p.wd then 0 else 4) else checkN p := by unfold fitsN; rw [show formatB f = true from decide_eq_true (by omega)]; rfl
      by_cases hc : checkN p = 0
      · rw [if_pos hc] at hd
        have hw := check_head_ok p hc
        have kw := hasWidth_spec f p.wd (by omega) (by omega) (by omega) (by omega)
        rw [hc] at kc
        rw [hd]
        clear hd hw
        cases hb : fitB f p.wd with
        | true =>
          rw [hb] at kw
          rw [if_pos rfl]
          clear hb hc
          go_enter Try.func12, Try.ntmps12
          go_wp2_with fail
          refine kc.mono ?_
          rintro e w4 ⟨rfl, h4⟩
          clear kc d0 d1 d2 d3
          have d2 := h4.out.c2
          go_wp2_with fail
          refine (kw _).mono ?_
          rintro e w5 ⟨rfl, rfl⟩
          go_wp2_with fail
          go_ret
          exact ⟨rfl, h4.out.below⟩
        | false =>
          rw [hb] at kw
          rw [if_neg (by decide)]
          clear hb hc
          go_enter Try.func12, Try.ntmps12
          go_wp2_with fail
          refine kc.mono ?_
          rintro e w4 ⟨rfl, h4⟩
          clear kc d0 d1 d2 d3
          have d2 := h4.out.c2
          go_wp2_with fail
          refine (kw _).mono ?_
          rintro e w5 ⟨rfl, rfl⟩
          go_wp2_with fail
          go_ret
          exact ⟨rfl, h4.out.below⟩
      · rw [if_neg hc] at hd
        rw [hd]
        have hbn : (checkN p == 0) = false := by rw [beq_eq_false_iff_ne]; exact hc
        have hbn2 : (checkN p != 0) = true := by rw [bne_iff_ne]; exact hc
        generalize checkN p = n at *
        clear hd
        go_enter Try.func12, Try.ntmps12
        go_wp2_with fail
        refine kc.mono ?_
        rintro e w4 ⟨rfl, h4⟩
        clear kc d0 d1 d2 d3
        go_wp2_with fail
        go_ret
        exact ⟨rfl, h4.out.below⟩

end Go.Proofs.Ytaepgjheknkojaa
