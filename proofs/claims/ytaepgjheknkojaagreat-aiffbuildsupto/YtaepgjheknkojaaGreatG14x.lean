/- Own text: the walks of the program's isEven and of what it calls. the walk of the program's inTurn, whatever it does. the program's Check, what its closure says, sample by sample. the walk of the program's Check. the walks of the program's hasWidth and Fits. -/
import Derived.Test.YtaepgjheknkojaaGreatG11x
import Derived.Test.YtaepgjheknkojaaGreatG5x
namespace Go.Proofs.YtaepgjheknkojaaGreat
open Go.RowKit
set_option linter.unusedSimpArgs false
set_option linter.unusedVariables false

def oddB (xs : List (List Int)) (n : Nat) : Bool := xs.any fun l => decide (l.length ≠ n)
theorem odd_at (xs : List (List Int)) (n i : Nat) (hi : i < xs.length) (h : (xs.getD i []).length ≠ n) : oddB xs n = true := by
  unfold oddB
  rw [List.any_eq_true]
  refine ⟨xs.getD i [], ?_, decide_eq_true h⟩
  rw [List.getD_eq_getElem?_getD, List.getElem?_eq_getElem hi]
  exact List.getElem_mem hi
theorem odd_none (xs : List (List Int)) (n : Nat) (h : ∀ i, i < xs.length → (xs.getD i []).length = n) : oddB xs n = false := by
  unfold oddB
  rw [List.any_eq_false]
  intro x hx
  obtain ⟨i, hi, rfl⟩ := List.mem_iff_getElem.1 hx
  have := h i hi
  rw [List.getD_eq_getElem?_getD, List.getElem?_eq_getElem hi] at this
  simpa using this

set_option maxRecDepth 20000 in
set_option maxHeartbeats 1600000 in
theorem oddC_spec (ao : Option Addr) (m c n B : Nat) (hm : m ≤ 17592186044415) (hn : n ≤ 17592186044415) (w : World) (hc : w.cell? ⟨B, 0, none⟩ = some (.int .i64 (n : Int))) :
    Calls Tryz.prog 105 #[.slice ao m c, .pointer (some ⟨B, 0, none⟩)] w fun e w' => e = .returned (.bool (decide (m ≠ n))) ∧ w' = w := by
  have hd : decide (m ≠ n) = ((m : Int) != (n : Int)) := by
    by_cases h : m = n
    · rw [h, decide_eq_false (by simp)]
      simp
    · rw [decide_eq_true h]
      symm
      rw [bne_iff_ne]
      omega
  rw [hd]
  go_enter Tryz.func105, Tryz.ntmps105
  go_wp2
  go_ret
  exact ⟨rfl, rfl⟩

set_option maxRecDepth 20000 in
set_option maxHeartbeats 1600000 in
theorem idx_spec (xs : List (List Int)) (ao : Option Addr) (cap n B : Nat) (w : World) (hr : RowsAt w ao xs) (hn : n ≤ 17592186044415) (hc : w.cell? ⟨B, 0, none⟩ = some (.int .i64 (n : Int))) :
    Calls Tryz.prog 126 #[.slice ao xs.length cap, .func (.func 105) #[] #[.pointer (some ⟨B, 0, none⟩)]] w fun e w' => ∃ k : Int, e = .returned (.int .i64 k) ∧ decide (0 ≤ k) = oddB xs n ∧ w' = w := by
  have hl := hr.len
  have HR : Hid (RowsAt w ao xs) := hr
  clear hr
  have HC : Hid (w.cell? ⟨B, 0, none⟩ = some (.int .i64 (n : Int))) := hc
  clear hc
  go_enter Tryz.func126, Tryz.ntmps126
  go_wp2_with fail
  go_loopw [5, 8] (fun s5 s8 wr => ∃ i : Nat, i ≤ xs.length ∧ s8 = .int .i64 (i : Int) ∧ (∀ j, j < i → (xs.getD j []).length = n) ∧ wr = w) (fun _ t _ => xs.length - (intOf t).toNat)
  case atStart => exact ⟨0, Nat.zero_le _, rfl, fun j hj => absurd hj (Nat.not_lt_zero _), rfl⟩
  case round =>
    obtain ⟨i, hi, rfl, hok, rfl⟩ := hrel
    have HO : Hid (∀ j, j < i → (xs.getD j []).length = n) := hok
    clear hok
    by_cases hlt : i < xs.length
    · obtain ⟨b, off, a, c, rfl, hll, hcell, hints⟩ := HR.out.at i hlt
      have hc0 := hcell wr (Below.refl _ _)
      clear hcell hints
      have HOD : Hid ((xs.getD i []).length ≠ n → oddB xs n = true) := odd_at xs n i hlt
      generalize hL : (xs.getD i []).length = m at *
      have HL : Hid ((xs.getD i []).length = m) := hL
      clear hL
      have kc := oddC_spec a m c n B hll hn wr HC.out
      by_cases hm : m = n
      · have hd : decide (m ≠ n) = false := decide_eq_false (fun h => h hm)
        rw [hd] at kc
        have HM : Hid (m = n) := hm
        clear hm hd
        go_wp2_with (go_at_call 105; refine kc.mono ?_; rintro e w4 ⟨rfl, rfl⟩)
        go_roundw
        case rel =>
          refine ⟨i + 1, by omega, by go_num, fun j hj => ?_, trivial⟩
          by_cases e : j = i
          · rw [e, HL.out]
            exact HM.out
          · exact HO.out j (by omega)
        case measure => simp [intOf]; omega
      · have hd : decide (m ≠ n) = true := decide_eq_true hm
        rw [hd] at kc
        have HM : Hid (oddB xs n = true) := HOD.out hm
        clear hm hd
        go_wp2_with (go_at_call 105; refine kc.mono ?_; rintro e w4 ⟨rfl, rfl⟩)
        go_ret
        exact ⟨_, rfl, by rw [HM.out]; exact decide_eq_true (by omega), rfl⟩
    · have HM : Hid (oddB xs n = false) := odd_none xs n (fun j hj => HO.out j (by omega))
      go_wp2_with fail
      go_ret
      exact ⟨_, rfl, by rw [HM.out]; rfl, rfl⟩

set_option maxRecDepth 20000 in
set_option maxHeartbeats 1600000 in
theorem contains_spec (xs : List (List Int)) (ao : Option Addr) (cap n B : Nat) (w : World) (hr : RowsAt w ao xs) (hn : n ≤ 17592186044415) (hc : w.cell? ⟨B, 0, none⟩ = some (.int .i64 (n : Int))) :
    Calls Tryz.prog 106 #[.slice ao xs.length cap, .func (.func 105) #[] #[.pointer (some ⟨B, 0, none⟩)]] w fun e w' => e = .returned (.bool (oddB xs n)) ∧ w' = w := by
  have ki := idx_spec xs ao cap n B w hr hn hc
  clear hr hc
  go_enter Tryz.func106, Tryz.ntmps106
  go_wp2_with fail
  refine ki.mono ?_
  rintro e w4 ⟨k, rfl, hk, rfl⟩
  have HK : Hid (decide (0 ≤ k) = oddB xs n) := hk
  clear hk ki
  go_wp2_with fail
  go_ret
  exact ⟨by rw [← HK.out]; rfl, rfl⟩

/-- A plane for each channel, all as long. -/
def evenB (p : Pcm) : Bool := decide ((p.pl.length : Int) = p.ch) && !oddB p.pl (lenP p)

set_option maxRecDepth 20000 in
set_option maxHeartbeats 1600000 in
theorem isEven_spec (p : Pcm) (ao : Option Addr) (cap : Nat) (w : World) (hr : RowsAt w ao p.pl) (hlp : lenP p ≤ 17592186044415) :
    Calls Tryz.prog 82 #[pcmV p ao cap] w fun e w' => e = .returned (.bool (evenB p)) ∧ Below w.heap.size w w' := by
  have hl := hr.len
  have KL : Hid (∀ wx, Hid (Bx w p ao cap wx) → Calls Tryz.prog 59 #[pcmV p ao cap] wx fun e w' => e = .returned (.int .i64 (lenP p : Int)) ∧ Hid (Bx w p ao cap w')) := fun wx hx =>
    (len_spec p ao cap wx (hr.below hx.out.below)).mono fun e w' h => ⟨h.1, hx.out.next h.2⟩
  have HB0 : Hid (Bx w p ao cap (w.alloc (.cells (pcmC p ao cap) 24))) := Bx.new w p ao cap
  have KC : Hid (∀ wx B, Below w.heap.size w wx → wx.cell? ⟨B, 0, none⟩ = some (.int .i64 (lenP p : Int)) → Calls Tryz.prog 106 #[.slice ao p.pl.length cap, .func (.func 105) #[] #[.pointer (some ⟨B, 0, none⟩)]] wx fun e w' => e = .returned (.bool (oddB p.pl (lenP p))) ∧ w' = wx) := fun wx B hB hc => contains_spec p.pl ao cap (lenP p) B wx (hr.below hB) hlp hc
  clear hr
  go_enter Tryz.func82, Tryz.ntmps82
  go_wp2_with fail
  generalize hwa : w.alloc _ = wa
  have HA : Hid (Bx w p ao cap wa) := by
    rw [← hwa]
    exact HB0.out
  clear hwa HB0
  have kl := KL.out wa HA
  have d0 := HA.out.c0
  have d1 := HA.out.c1
  have d2 := HA.out.c2
  have d3 := HA.out.c3
  go_wp2_with fail
  refine kl.mono ?_
  rintro e w4 ⟨rfl, h4⟩
  clear kl d0 d1 d2 d3 HA
  have hA5 : Hid (Bx w p ao cap (w4.alloc (.cells #[.int .i64 (lenP p : Int)] 3))) := h4.out.next ((Below.refl _ _).alloc (Nat.le_refl _) _)
  have d1 := hA5.out.c1
  have d3 := hA5.out.c3
  have d4 : (w4.alloc (.cells #[.int .i64 (lenP p : Int)] 3)).cell? ⟨w4.heap.size, 0, none⟩ = some (.int .i64 (lenP p : Int)) := by rw [cell_of_row _ _ _ _ _ _ (heap_alloc_new _ _)]; rfl
  have kc := KC.out _ w4.heap.size hA5.out.below d4
  have HEV : Hid (evenB p = (decide ((p.pl.length : Int) = p.ch) && !oddB p.pl (lenP p))) := rfl
  generalize hod : oddB p.pl (lenP p) = od at *
  clear hod
  by_cases hpc : (p.pl.length : Int) = p.ch
  · have hbe : ((p.pl.length : Int) == p.ch) = true := by rw [hpc]; exact beq_self_eq_true _
    have HE : Hid (evenB p = !od) := by rw [HEV.out, decide_eq_true hpc]; rfl
    clear hpc HEV
    go_wp2_with fail
    refine kc.mono ?_
    rintro e w6 ⟨rfl, rfl⟩
    clear kc
    go_wp2_with fail
    go_ret
    exact ⟨by rw [HE.out]; rfl, hA5.out.below⟩
  · have hbe : ((p.pl.length : Int) == p.ch) = false := by rw [beq_eq_false_iff_ne]; exact hpc
    have HE : Hid (evenB p = false) := by rw [HEV.out, decide_eq_false hpc]; rfl
    clear hpc HEV
    go_wp2_with fail
    go_ret
    exact ⟨by rw [HE.out]; rfl, hA5.out.below⟩

end Go.Proofs.YtaepgjheknkojaaGreat

namespace Go.Proofs.YtaepgjheknkojaaGreat
open Go.RowKit
set_option linter.unusedSimpArgs false
set_option linter.unusedVariables false

/-- Planes that are all as long, gone through place by place, plane by plane: what holds at the t-th sample, and how it ends. -/
structure Turn (b off n c : Nat) (ra : Nat → Option Addr) (rc : Nat → Nat) (g : Nat) (cb : Array Value) (I : Nat → World → Prop) (J : World → Prop) : Prop where
  head : ∀ t wx, I t wx → ∀ k, k < c → wx.cell? ⟨b, off + k, none⟩ = some (.slice (ra k) n (rc k))
  addr : 0 < n → ∀ k, k < c → ∃ b' o', ra k = some ⟨b', o', none⟩
  step : ∀ i k wx, i < n → k < c → I (i * c + k) wx → ∀ b' o', ra k = some ⟨b', o', none⟩ → Calls Tryz.prog g (#[.pointer (Option.some ⟨b', o' + i, none⟩)] ++ cb) wx fun e w' => (e = .returned (.bool true) ∧ I (i * c + k + 1) w') ∨ (e = .returned (.bool false) ∧ J w')

set_option maxRecDepth 20000 in
set_option maxHeartbeats 3200000 in
theorem inTurn_spec (b off n c cap : Nat) (ra : Nat → Option Addr) (rc : Nat → Nat) (g : Nat) (cb : Array Value) (I : Nat → World → Prop) (J : World → Prop)
    (eg : ∀ args w, (callFunc g args).run Tryz.prog w = .ok (.enter g args) w) (hT : Turn b off n c ra rc g cb I J) (hc : 1 ≤ c) (hc8 : c ≤ 8) (hn : n ≤ 17592186044415) (w : World) (hI : I 0 w) :
    Calls Tryz.prog 60 #[.slice (some ⟨b, off, none⟩) c cap, .func (.func g) #[] cb] w fun e w' => (e = .returned (.bool true) ∧ I (n * c) w') ∨ (e = .returned (.bool false) ∧ J w') := by
  have HT : Hid (Turn b off n c ra rc g cb I J) := hT
  have h0 := hT.head 0 w hI 0 (by omega)
  rw [Nat.add_zero] at h0
  have HI : Hid (I 0 w) := hI
  clear hT hI
  have hcb : ((c : Int) == 0) = false := by rw [beq_eq_false_iff_ne]; omega
  go_enter Tryz.func60, Tryz.ntmps60
  go_wp2_with fail
  clear h0
  go_loopw [5, 7, 15, 20] (fun s5 s7 s15 s20 wr => ∃ i : Nat, i ≤ n ∧ s15 = .int .i64 (i : Int) ∧ I (i * c) wr) (fun _ _ t _ _ => n - (intOf t).toNat)
  case atStart => exact ⟨0, Nat.zero_le _, rfl, by rw [Nat.zero_mul]; exact HI.out⟩
  case round =>
    clear HI
    obtain ⟨i, hi, rfl, hIi⟩ := hrel
    have HI : Hid (I (i * c) wr) := hIi
    clear hIi
    by_cases hlt : i < n
    · go_wp2_with fail
      go_loopw [7, 20] (fun s7 s20 wr' => ∃ k : Nat, k ≤ c ∧ s20 = .int .i64 (k : Int) ∧ I (i * c + k) wr') (fun _ t _ => c - (intOf t).toNat)
      case atStart => exact ⟨0, Nat.zero_le _, rfl, HI.out⟩
      case round =>
        clear HI
        obtain ⟨k, hk, rfl, hIk⟩ := hrel
        by_cases hkl : k < c
        · have hhd := HT.out.head _ _ hIk k hkl
          obtain ⟨b', o', hra⟩ := HT.out.addr (by omega) k hkl
          rw [hra] at hhd
          have ks := HT.out.step i k _ hlt hkl hIk b' o' hra
          clear hIk hra
          go_wp2_with (go_at_fn g; refine ks.mono ?_; rintro e w4 (⟨rfl, h4⟩ | ⟨rfl, h4⟩))
          · go_roundw
            case rel => exact ⟨k + 1, by omega, by go_num, h4⟩
            case measure => simp [intOf]; omega
          · go_ret
            exact Or.inr ⟨rfl, h4⟩
        · have hkc : k = c := by omega
          have HK : Hid (I (i * c + c) wr) := by
            rw [hkc] at hIk
            exact hIk
          clear hIk hkc
          go_wp2_with fail
          go_roundw
          case rel => exact ⟨i + 1, by omega, by go_num, by rw [Nat.succ_mul]; exact HK.out⟩
          case measure => simp [intOf]; omega
    · have hin : i = n := by omega
      have HN : Hid (I (n * c) wr) := by rw [← hin]; exact HI.out
      clear HI hin
      go_wp2_with fail
      go_ret
      exact Or.inl ⟨rfl, HN.out⟩

end Go.Proofs.YtaepgjheknkojaaGreat

namespace Go.Proofs.YtaepgjheknkojaaGreat
open Go.RowKit
set_option linter.unusedSimpArgs false
set_option linter.unusedVariables false

/-- The closure that Check hands on: is it a sample of the width? -/
theorem checkC_spec (p : Pcm) (ao : Option Addr) (cap : Nat) (w0 w : World) (h4 : 4 ≤ p.wd) (h32 : p.wd ≤ 32) (hB : Bx w0 p ao cap w) (b o : Nat) (n : Int) (hc : w.cell? ⟨b, o, none⟩ = some (.int .i64 n)) :
    Calls Tryz.prog 83 #[.pointer (some ⟨b, o, none⟩), .pointer (some ⟨w0.heap.size, 0, none⟩)] w fun e w' => e = .returned (.bool (sampB n p.wd)) ∧ ∃ q, w' = w.drewN q := by
  have d2 := hB.c2
  have ks := isSample_spec n p.wd h4 h32
  generalize hs : sampB n p.wd = sb at *
  clear hs
  have hb : w0.heap.size < w.heap.size := lt_of_block hB.box
  clear hB
  go_enter Tryz.func83, Tryz.ntmps83
  go_wp2_with fail
  go_quiet ((go_at_call 84; exact Calls.quiet_of_same (ks _)))
  go_wp2_with fail
  go_ret
  exact ⟨rfl, _, rfl⟩

theorem row_len (p : Pcm) (he : evenB p = true) : (p.pl.length : Int) = p.ch ∧ ∀ k, k < p.pl.length → (p.pl.getD k []).length = lenP p := by
  unfold evenB at he
  rw [Bool.and_eq_true] at he
  refine ⟨of_decide_eq_true he.1, fun k hk => ?_⟩
  by_cases h : (p.pl.getD k []).length = lenP p
  · exact h
  · have := odd_at p.pl (lenP p) k hk h
    rw [this] at he
    exact absurd he.2 (by simp)
theorem check_uneven (p : Pcm) (h : (mayB p.rate p.ch p.wd && evenB p) = false) : checkN p = 50 := by
  unfold checkN
  by_cases hh : (headB p && p.pl.all (planeB p)) = true
  · exfalso
    rw [Bool.and_eq_true] at hh
    have hp := head_parts p hh.1
    have ha := hh.2
    rw [List.all_eq_true] at ha
    have e1 : mayB p.rate p.ch p.wd = true := decide_eq_true (by omega)
    have e2 : oddB p.pl (lenP p) = false := odd_none p.pl (lenP p) (fun i hi => by
      have hm : p.pl.getD i [] ∈ p.pl := by
        rw [List.getD_eq_getElem?_getD, List.getElem?_eq_getElem hi]
        exact List.getElem_mem hi
      have := ha _ hm
      unfold planeB at this
      rw [Bool.and_eq_true] at this
      exact of_decide_eq_true this.1)
    have e3 : evenB p = true := by
      unfold evenB
      rw [e2, decide_eq_true hp.2.2.2.2.2.2]
      rfl
    rw [e1, e3] at h
    exact absurd h (by simp)
  · rw [if_neg hh]
theorem check_samples (p : Pcm) (h : (mayB p.rate p.ch p.wd && evenB p) = true) (hs : ∀ i k, i < lenP p → k < p.pl.length → sampB ((p.pl.getD k []).getD i 0) p.wd = true) : checkN p = if 1048576 < lenP p then 5 else 0 := by
  rw [Bool.and_eq_true] at h
  obtain ⟨h1, h2⟩ := row_len p h.2
  have hm := of_decide_eq_true h.1
  refine check_all p (decide_eq_true (by omega)) fun k hk => plane_all p _ (h2 k hk) fun i hi => hs i k ?_ hk
  rw [h2 k hk] at hi
  exact hi
theorem check_bad (p : Pcm) (h : (mayB p.rate p.ch p.wd && evenB p) = true) (i k : Nat) (hi : i < lenP p) (hk : k < p.pl.length) (hs : sampB ((p.pl.getD k []).getD i 0) p.wd = false) : checkN p = 50 := by
  rw [Bool.and_eq_true] at h
  obtain ⟨h1, h2⟩ := row_len p h.2
  exact check_plane p k hk (plane_samp p _ i (by rw [h2 k hk]; exact hi) hs)

theorem split_t (c i k j l : Nat) (hk : k < c) (hl : l < c) (h : j * c + l < i * c + k + 1) (hne : ¬ (j = i ∧ l = k)) : j * c + l < i * c + k := by
  have : j * c + l ≠ i * c + k := by
    intro e
    have e1 : (j * c + l) / c = j := by rw [Nat.mul_comm, Nat.mul_add_div (by omega), Nat.div_eq_of_lt hl]; omega
    have e2 : (i * c + k) / c = i := by rw [Nat.mul_comm, Nat.mul_add_div (by omega), Nat.div_eq_of_lt hk]; omega
    have e3 : j = i := by rw [← e1, e, e2]
    subst e3
    exact hne ⟨rfl, by omega⟩
  omega

/-- All samples ahead of the t-th are such. -/
def goodTo (p : Pcm) (c t : Nat) : Prop := ∀ j l, j < lenP p → l < c → j * c + l < t → sampB ((p.pl.getD l []).getD j 0) p.wd = true
def badOne (p : Pcm) : Prop := ∃ i k, i < lenP p ∧ k < p.pl.length ∧ sampB ((p.pl.getD k []).getD i 0) p.wd = false

set_option maxHeartbeats 1600000 in
theorem checkTurn (p : Pcm) (b off cap : Nat) (w : World) (hr : RowsAt w (some ⟨b, off, none⟩) p.pl) (hh : (mayB p.rate p.ch p.wd && evenB p) = true) :
    ∃ ra rc, Turn b off (lenP p) p.pl.length ra rc 83 #[.pointer (some ⟨w.heap.size, 0, none⟩)] (fun t wx => goodTo p p.pl.length t ∧ Bx w p (some ⟨b, off, none⟩) cap wx) (fun wx => badOne p ∧ Bx w p (some ⟨b, off, none⟩) cap wx) := by
  have hh2 := hh
  rw [Bool.and_eq_true] at hh2
  obtain ⟨h1, h2⟩ := row_len p hh2.2
  have hm := of_decide_eq_true hh2.1
  have hrow : ∀ k, k < p.pl.length → ∃ a c, (∀ wx, Below w.heap.size w wx → wx.cell? ⟨b, off + k, none⟩ = some (.slice a (lenP p) c)) ∧ IntsAt w a (p.pl.getD k []) := fun k hk => by
    obtain ⟨b1, off1, a, c, e, _, hcell, hints⟩ := hr.at k hk
    have e' : b = b1 ∧ off = off1 := by
      injection e with e
      injection e with e1 e2
      exact ⟨e1, e2⟩
    obtain ⟨rfl, rfl⟩ := e'
    rw [h2 k hk] at hcell
    exact ⟨a, c, hcell, hints⟩
  let ra : Nat → Option Addr := fun k => if h : k < p.pl.length then Classical.choose (hrow k h) else none
  have hra : ∀ k (h : k < p.pl.length), ∃ c, (∀ wx, Below w.heap.size w wx → wx.cell? ⟨b, off + k, none⟩ = some (.slice (ra k) (lenP p) c)) ∧ IntsAt w (ra k) (p.pl.getD k []) := fun k h => by
    have e : ra k = Classical.choose (hrow k h) := dif_pos h
    rw [e]
    exact Classical.choose_spec (hrow k h)
  let rc : Nat → Nat := fun k => if h : k < p.pl.length then Classical.choose (hra k h) else 0
  have hrc : ∀ k (h : k < p.pl.length), (∀ wx, Below w.heap.size w wx → wx.cell? ⟨b, off + k, none⟩ = some (.slice (ra k) (lenP p) (rc k))) ∧ IntsAt w (ra k) (p.pl.getD k []) := fun k h => by
    have e : rc k = Classical.choose (hra k h) := dif_pos h
    rw [e]
    exact Classical.choose_spec (hra k h)
  refine ⟨ra, rc, fun t wx hI k hk => (hrc k hk).1 wx hI.2.below, fun h0 k hk => ?_, fun i k wx hi hk hI b' o' he => ?_⟩
  · obtain ⟨b', o', e, _⟩ := (hrc k hk).2.lies (by rw [h2 k hk]; exact h0)
    exact ⟨b', o', e⟩
  · obtain ⟨b2, o2, e, hcell, _, _⟩ := (hrc k hk).2.at i (by rw [h2 k hk]; exact hi)
    rw [he] at e
    have e' : b' = b2 ∧ o' = o2 := by
      injection e with e
      injection e with e1 e2
      exact ⟨e1, e2⟩
    obtain ⟨rfl, rfl⟩ := e'
    refine (checkC_spec p _ cap w wx (by omega) (by omega) hI.2 b' (o' + i) _ (hcell wx hI.2.below)).mono ?_
    rintro e w' ⟨rfl, q, rfl⟩
    cases hs : sampB ((p.pl.getD k []).getD i 0) p.wd with
    | true =>
      refine Or.inl ⟨rfl, fun j l hj hl ht => ?_, hI.2.drewN q⟩
      by_cases hjl : j = i ∧ l = k
      · obtain ⟨rfl, rfl⟩ := hjl
        exact hs
      · exact hI.1 j l hj hl (split_t _ i k j l hk hl ht hjl)
    | false => exact Or.inr ⟨rfl, ⟨i, k, hi, hk, hs⟩, hI.2.drewN q⟩

end Go.Proofs.YtaepgjheknkojaaGreat

namespace Go.Proofs.YtaepgjheknkojaaGreat
open Go.RowKit
set_option linter.unusedSimpArgs false
set_option linter.unusedVariables false

theorem len_of (p : Pcm) {w : World} {ao : Option Addr} (hr : RowsAt w ao p.pl) : lenP p ≤ 17592186044415 := by
  by_cases h0 : 0 < p.pl.length
  · obtain ⟨_, _, _, _, _, h1, _, _⟩ := hr.at 0 h0
    exact h1
  · unfold lenP
    rw [List.getD_eq_getElem?_getD, List.getElem?_eq_none (by omega)]
    exact Nat.zero_le _

set_option maxRecDepth 20000 in
set_option maxHeartbeats 3200000 in
theorem check_no (p : Pcm) (ao : Option Addr) (cap : Nat) (w : World) (hr : RowsAt w ao p.pl) (hh : (mayB p.rate p.ch p.wd && evenB p) = false) :
    Calls Tryz.prog 51 #[pcmV p ao cap] w fun e w' => e = .returned (.int .i64 50) ∧ Below w.heap.size w w' := by
  have hl := hr.len
  have km := mayBe_spec p.rate p.ch p.wd
  have KE : Hid (∀ wx, Hid (Bx w p ao cap wx) → Calls Tryz.prog 82 #[pcmV p ao cap] wx fun e w' => e = .returned (.bool (evenB p)) ∧ Hid (Bx w p ao cap w')) := fun wx hx =>
    (isEven_spec p ao cap wx (hr.below hx.out.below) (len_of p hr)).mono fun e w' h => ⟨h.1, hx.out.next h.2⟩
  have HB0 : Hid (Bx w p ao cap (w.alloc (.cells (pcmC p ao cap) 24))) := Bx.new w p ao cap
  have d0 := HB0.out.c0
  have d1 := HB0.out.c1
  have d2 := HB0.out.c2
  have d3 := HB0.out.c3
  have ke := KE.out _ HB0
  clear hr KE
  cases hm : mayB p.rate p.ch p.wd with
  | false =>
    rw [hm] at km
    clear hh hm ke
    go_enter Tryz.func51, Tryz.ntmps51
    go_wp2_with fail
    refine (km _).mono ?_
    rintro e w4 ⟨rfl, rfl⟩
    go_wp2_with fail
    go_ret
    exact ⟨rfl, HB0.out.below⟩
  | true =>
    have he : evenB p = false := by
      rw [hm] at hh
      exact hh
    rw [hm] at km
    rw [he] at ke
    clear hh hm he
    go_enter Tryz.func51, Tryz.ntmps51
    go_wp2_with fail
    refine (km _).mono ?_
    rintro e w4 ⟨rfl, rfl⟩
    go_wp2_with fail
    refine ke.mono ?_
    rintro e w4 ⟨rfl, h4⟩
    go_wp2_with fail
    go_ret
    exact ⟨rfl, h4.out.below⟩

set_option maxRecDepth 20000 in
set_option maxHeartbeats 3200000 in
theorem check_yes (p : Pcm) (ao : Option Addr) (cap : Nat) (w : World) (hr : RowsAt w ao p.pl) (hh : (mayB p.rate p.ch p.wd && evenB p) = true) :
    Calls Tryz.prog 51 #[pcmV p ao cap] w fun e w' => e = .returned (.int .i64 (checkN p)) ∧ Below w.heap.size w w' := by
  have hl := hr.len
  have hll := len_of p hr
  have HH : Hid ((mayB p.rate p.ch p.wd && evenB p) = true) := hh
  rw [Bool.and_eq_true] at hh
  obtain ⟨hm, he⟩ := hh
  have hmb := of_decide_eq_true hm
  have hpl := (row_len p he).1
  obtain ⟨b, off, rfl, _⟩ := hr.lies (by omega)
  have km := mayBe_spec p.rate p.ch p.wd
  rw [hm] at km
  have KE : Hid (∀ wx, Hid (Bx w p (some ⟨b, off, none⟩) cap wx) → Calls Tryz.prog 82 #[pcmV p (some ⟨b, off, none⟩) cap] wx fun e w' => e = .returned (.bool true) ∧ Hid (Bx w p (some ⟨b, off, none⟩) cap w')) := fun wx hx =>
    (isEven_spec p _ cap wx (hr.below hx.out.below) (len_of p hr)).mono fun e w' h => ⟨by rw [h.1, he], hx.out.next h.2⟩
  have KL : Hid (∀ wx, Hid (Bx w p (some ⟨b, off, none⟩) cap wx) → Calls Tryz.prog 59 #[pcmV p (some ⟨b, off, none⟩) cap] wx fun e w' => e = .returned (.int .i64 (lenP p : Int)) ∧ Hid (Bx w p (some ⟨b, off, none⟩) cap w')) := fun wx hx =>
    (len_spec p _ cap wx (hr.below hx.out.below)).mono fun e w' h => ⟨h.1, hx.out.next h.2⟩
  have HB0 : Hid (Bx w p (some ⟨b, off, none⟩) cap (w.alloc (.cells (pcmC p (some ⟨b, off, none⟩) cap) 24))) := Bx.new w p _ cap
  have d0 := HB0.out.c0
  have d1 := HB0.out.c1
  have d2 := HB0.out.c2
  have d3 := HB0.out.c3
  have ke := KE.out _ HB0
  have KT : Hid (∀ wx, Hid (Bx w p (some ⟨b, off, none⟩) cap wx) → Calls Tryz.prog 60 #[.slice (some ⟨b, off, none⟩) p.pl.length cap, .func (.func 83) #[] #[.pointer (some ⟨w.heap.size, 0, none⟩)]] wx fun e w' => (e = .returned (.bool true) ∧ Hid (goodTo p p.pl.length (lenP p * p.pl.length)) ∧ Hid (Bx w p (some ⟨b, off, none⟩) cap w')) ∨ (e = .returned (.bool false) ∧ Hid (badOne p) ∧ Hid (Bx w p (some ⟨b, off, none⟩) cap w'))) := fun wx hx => by
    obtain ⟨ra, rc, hT⟩ := checkTurn p b off cap w hr HH.out
    refine (inTurn_spec b off (lenP p) p.pl.length cap ra rc 83 _ _ _ (enters_of Tryz.func83 (by kernel_rfl) rfl) hT (by omega) (by omega) hll wx ⟨fun j l _ _ h => absurd h (Nat.not_lt_zero _), hx.out⟩).mono ?_
    rintro e w' (⟨rfl, h1, h2⟩ | ⟨rfl, h1, h2⟩)
    · exact Or.inl ⟨rfl, h1, h2⟩
    · exact Or.inr ⟨rfl, h1, h2⟩
  clear hr KE hm he hmb
  go_enter Tryz.func51, Tryz.ntmps51
  go_wp2_with fail
  refine (km _).mono ?_
  rintro e w4 ⟨rfl, rfl⟩
  clear km
  go_wp2_with fail
  refine ke.mono ?_
  rintro e w4 ⟨rfl, h4⟩
  clear ke d0 d1 d2 d3 HB0
  have d0 := h4.out.c0
  have d1 := h4.out.c1
  have d2 := h4.out.c2
  have d3 := h4.out.c3
  have kt := KT.out w4 h4
  go_wp2_with fail
  refine kt.mono ?_
  clear kt d0 d1 d2 d3
  rintro e w5 (⟨rfl, hg, h5⟩ | ⟨rfl, hg, h5⟩)
  · have d0 := h5.out.c0
    have d1 := h5.out.c1
    have d2 := h5.out.c2
    have d3 := h5.out.c3
    have kl := KL.out w5 h5
    have hcn := check_samples p HH.out (fun i k hi hk => hg.out i k hi hk (by
      have : i * p.pl.length + k < (i + 1) * p.pl.length := by rw [Nat.succ_mul]; omega
      exact Nat.lt_of_lt_of_le this (Nat.mul_le_mul_right _ hi)))
    by_cases hbig : 1048576 < lenP p
    · rw [if_pos hbig] at hcn
      have HF : Hid (checkN p = 5) := hcn
      clear hcn
      go_wp2_with fail
      refine kl.mono ?_
      rintro e w6 ⟨rfl, h6⟩
      go_wp2
      go_ret
      exact ⟨by rw [HF.out]; rfl, h6.out.below⟩
    · rw [if_neg hbig] at hcn
      have HF : Hid (checkN p = 0) := hcn
      clear hcn
      go_wp2_with fail
      refine kl.mono ?_
      rintro e w6 ⟨rfl, h6⟩
      go_wp2
      go_ret
      exact ⟨by rw [HF.out]; rfl, h6.out.below⟩
  · have HF : Hid (checkN p = 50) := by
      obtain ⟨i, k, hi, hk, hs⟩ := hg.out
      exact check_bad p HH.out i k hi hk hs
    go_wp2_with fail
    go_ret
    exact ⟨by rw [HF.out]; rfl, h5.out.below⟩

theorem check_spec (p : Pcm) (ao : Option Addr) (cap : Nat) (w : World) (hr : RowsAt w ao p.pl) :
    Calls Tryz.prog 51 #[pcmV p ao cap] w fun e w' => e = .returned (.int .i64 (checkN p)) ∧ Below w.heap.size w w' := by
  cases hh : (mayB p.rate p.ch p.wd && evenB p) with
  | true => exact check_yes p ao cap w hr hh
  | false =>
    rw [check_uneven p hh]
    exact check_no p ao cap w hr hh

end Go.Proofs.YtaepgjheknkojaaGreat

namespace Go.Proofs.YtaepgjheknkojaaGreat
open Go.RowKit
set_option linter.unusedSimpArgs false
set_option linter.unusedVariables false

set_option maxRecDepth 20000 in
set_option maxHeartbeats 1600000 in
theorem hasWidth_spec (f wd : Int) (h1 : 1 ≤ f) (h5 : f ≤ 5) (h4 : 4 ≤ wd) (h32 : wd ≤ 32) (w : World) :
    Calls Tryz.prog 52 #[.int .i64 f, .int .i64 wd] w fun e w' => e = .returned (.bool (fitB f wd)) ∧ w' = w := by
  have hf : f = 1 ∨ f = 2 ∨ f = 3 ∨ f = 4 ∨ f = 5 := by omega
  rcases hf with rfl | rfl | rfl | rfl | rfl
  · have e : fitB 1 wd = (wd % 8 == 0) := rfl
    rw [e]
    generalize hx : (wd % 8 == 0) = x
    have HX : Hid ((wd % 8 == 0) = x) := hx
    clear hx e
    go_enter Tryz.func52, Tryz.ntmps52
    go_wp2_with fail
    go_ret
    exact ⟨by rw [← HX.out]; rfl, rfl⟩
  · have e : fitB 2 wd = (wd % 8 == 0) := rfl
    rw [e]
    generalize hx : (wd % 8 == 0) = x
    have HX : Hid ((wd % 8 == 0) = x) := hx
    clear hx e
    go_enter Tryz.func52, Tryz.ntmps52
    go_wp2_with fail
    go_ret
    exact ⟨by rw [← HX.out]; rfl, rfl⟩
  · have e : fitB 3 wd = decide (wd ≤ 24) := rfl
    rw [e]
    go_enter Tryz.func52, Tryz.ntmps52
    go_wp2_with fail
    go_ret
    exact ⟨rfl, rfl⟩
  · have e : fitB 4 wd = decide (wd ≤ 24) := rfl
    rw [e]
    go_enter Tryz.func52, Tryz.ntmps52
    go_wp2_with fail
    go_ret
    exact ⟨rfl, rfl⟩
  · have e : fitB 5 wd = decide (8 ≤ wd ∧ wd ≤ 24) := rfl
    rw [e]
    by_cases g8 : 8 ≤ wd
    · have e2 : decide (8 ≤ wd ∧ wd ≤ 24) = decide (wd ≤ 24) := by
        by_cases g : wd ≤ 24
        · rw [decide_eq_true ⟨g8, g⟩, decide_eq_true g]
        · rw [decide_eq_false (fun c => g c.2), decide_eq_false g]
      rw [e2]
      go_enter Tryz.func52, Tryz.ntmps52
      go_wp2_with fail
      go_ret
      exact ⟨rfl, rfl⟩
    · rw [decide_eq_false (fun c => g8 c.1)]
      go_enter Tryz.func52, Tryz.ntmps52
      go_wp2_with fail
      go_ret
      exact ⟨rfl, rfl⟩

theorem check_head_ok (p : Pcm) (h : checkN p = 0) : 1 ≤ p.rate ∧ p.rate ≤ 655350 ∧ 1 ≤ p.ch ∧ p.ch ≤ 8 ∧ 4 ≤ p.wd ∧ p.wd ≤ 32 ∧ (p.pl.length : Int) = p.ch := by
  cases hh : headB p with
  | true => exact head_parts p hh
  | false => rw [check_head p hh] at h; exact absurd h (by decide)

set_option maxRecDepth 20000 in
set_option maxHeartbeats 3200000 in
theorem fits5_spec (f : Int) (p : Pcm) (ao : Option Addr) (cap : Nat) (w : World) (hr : RowsAt w ao p.pl) :
    Calls Tryz.prog 25 #[.int .i64 f, pcmV p ao cap] w fun e w' => e = .returned (.int .i64 (fitsN f p)) ∧ Below w.heap.size w w' := by
  have hl := hr.len
  have HB0 : Hid (Bx w p ao cap (w.alloc (.cells (pcmC p ao cap) 24))) := Bx.new w p ao cap
  have d0 := HB0.out.c0
  have d1 := HB0.out.c1
  have d2 := HB0.out.c2
  have d3 := HB0.out.c3
  have kc : Calls Tryz.prog 51 #[pcmV p ao cap] (w.alloc (.cells (pcmC p ao cap) 24)) fun e w' => e = .returned (.int .i64 (checkN p)) ∧ Hid (Bx w p ao cap w') :=
    (check_spec p ao cap _ (hr.below HB0.out.below)).mono fun e w' h => ⟨h.1, HB0.out.next h.2⟩
  clear hr
  by_cases g1 : f < 1
  · have hd : fitsN f p = 1 := by unfold fitsN; rw [show formatB f = false from decide_eq_false (by omega)]; rfl
    rw [hd]
    clear kc
    go_enter Tryz.func25, Tryz.ntmps25
    go_wp2_with fail
    go_ret
    exact ⟨rfl, HB0.out.below⟩
  · by_cases g5 : 5 < f
    · have hd : fitsN f p = 1 := by unfold fitsN; rw [show formatB f = false from decide_eq_false (by omega)]; rfl
      rw [hd]
      clear kc
      go_enter Tryz.func25, Tryz.ntmps25
      go_wp2_with fail
      go_ret
      exact ⟨rfl, HB0.out.below⟩
    · have hd : fitsN f p = if checkN p = 0 then (if fitB f p.wd then 0 else 4) else checkN p := by unfold fitsN; rw [show formatB f = true from decide_eq_true (by omega)]; rfl
      by_cases hc : checkN p = 0
      · rw [if_pos hc] at hd
        have hw := check_head_ok p hc
        have kw := hasWidth_spec f p.wd (by omega) (by omega) (by omega) (by omega)
        rw [hc] at kc
        rw [hd]
        clear hd hw
        cases hb : fitB f p.wd with
        | true =>
          rw [hb] at kw
          rw [if_pos rfl]
          clear hb hc
          go_enter Tryz.func25, Tryz.ntmps25
          go_wp2_with fail
          refine kc.mono ?_
          rintro e w4 ⟨rfl, h4⟩
          clear kc d0 d1 d2 d3
          have d2 := h4.out.c2
          go_wp2_with fail
          refine (kw _).mono ?_
          rintro e w5 ⟨rfl, rfl⟩
          go_wp2_with fail
          go_ret
          exact ⟨rfl, h4.out.below⟩
        | false =>
          rw [hb] at kw
          rw [if_neg (by decide)]
          clear hb hc
          go_enter Tryz.func25, Tryz.ntmps25
          go_wp2_with fail
          refine kc.mono ?_
          rintro e w4 ⟨rfl, h4⟩
          clear kc d0 d1 d2 d3
          have d2 := h4.out.c2
          go_wp2_with fail
          refine (kw _).mono ?_
          rintro e w5 ⟨rfl, rfl⟩
          go_wp2_with fail
          go_ret
          exact ⟨rfl, h4.out.below⟩
      · rw [if_neg hc] at hd
        rw [hd]
        have hbn : (checkN p == 0) = false := by rw [beq_eq_false_iff_ne]; exact hc
        have hbn2 : (checkN p != 0) = true := by rw [bne_iff_ne]; exact hc
        generalize checkN p = n at *
        clear hd
        go_enter Tryz.func25, Tryz.ntmps25
        go_wp2_with fail
        refine kc.mono ?_
        rintro e w4 ⟨rfl, h4⟩
        clear kc d0 d1 d2 d3
        go_wp2_with fail
        go_ret
        exact ⟨rfl, h4.out.below⟩

end Go.Proofs.YtaepgjheknkojaaGreat
