/- Own text. -/
import Derived.Test.YthgpleelpeacjaaGreatDoorH24
import Derived.Test.YthgpleelpeacjaaGreatDoorH25
set_option linter.unusedSimpArgs false
set_option linter.unusedVariables false
set_option maxRecDepth 20000
set_option maxHeartbeats 12800000
namespace Go.Proofs.YthgpleelpeacjaaGreatDoor
open Go.RowKit
theorem slice_ints2 (a : Option Addr) (n c f t : Nat) (h1 : f ≤ t) (h2 : t ≤ c) (h0 : a = none → c = 0) :
  ∃ xo, (∀ w, (Instr.slice 22 (.slice a n c) (some (.int .i64 (f : Int))) (some (.int .i64 (t : Int))) none).run Tryz.prog w = .ok (.slice xo (t - f) (c - f)) w) ∧ (∀ b off, a = some ⟨b, off, none⟩ → f < t → xo = some ⟨b, off + f, none⟩) := by
 cases a with
 | none =>
  have := h0 rfl
  refine ⟨none, fun w => ?_, fun b off q => (by cases q)⟩
  rw [run_slice_lh w 22 none n c undI .i64 .i64 _ _ (by omega) (by omega) (by omega), elemI, size3]
  simp [Result.andThen, sliced]
 | some ad =>
  refine ⟨some (if c = f then ad else ad.add f), fun w => ?_, fun b off q hlt => ?_⟩
  ·rw [run_slice_lh w 22 (some ad) n c undI .i64 .i64 _ _ (by omega) (by omega) (by omega), elemI, size3]
   simp only [Result.andThen_ok, sliced, Int.toNat_natCast, Option.map_some, Nat.mul_one]
   split <;> rfl
  ·cases q
   rw [if_neg (by omega), Addr.add_mid]
structure OB (w : World) (bc : Array Value) (X : World) : Prop where
 rb : X.heap[w.heap.size]? = some (.cells #[.int .i64 0, .int .i64 0, .slice none 0 0, .slice none 0 0] 25 (0, 0))
 bb : X.heap[w.heap.size + 1]? = some (.cells bc 25 (0, 0))
 below : Below w.heap.size w X
theorem OB.lt {w X : World} {bc : Array Value} (h : OB w bc X) : w.heap.size + 1 < X.heap.size := lt_of_block h.bb
theorem OB.low {w X X' : World} {bc : Array Value} (h : OB w bc X) (hb : Below X.heap.size X X') : OB w bc X' :=
 ⟨by rw [hb.block _ (lt_of_block h.rb)]; exact h.rb, by rw [hb.block _ h.lt]; exact h.bb, h.below.trans (hb.mono h.below.size)⟩
theorem OB.new (w : World) : OB w #[.int .i64 0, .int .i64 0, .slice none 0 0, .slice none 0 0] ((w.alloc (.cells #[.int .i64 0, .int .i64 0, .slice none 0 0, .slice none 0 0] 25)).alloc (.cells #[.int .i64 0, .int .i64 0, .slice none 0 0, .slice none 0 0] 25)) := by
 refine ⟨heap_two _ _ _, ?_, ((Below.refl _ _).alloc (Nat.le_refl _) _).alloc (by simp) _⟩
 have hh := heap_alloc_new (w.alloc (.cells #[.int .i64 0, .int .i64 0, .slice none 0 0, .slice none 0 0] 25)) (.cells #[.int .i64 0, .int .i64 0, .slice none 0 0, .slice none 0 0] 25)
 rw [show (w.alloc (.cells #[.int .i64 0, .int .i64 0, .slice none 0 0, .slice none 0 0] 25)).heap.size = w.heap.size + 1 from by simp] at hh
 exact hh
def Ks (F : Nat → Nat) : Nat → Value → Value → Prop
 | 0, a, b => a = .int .i64 (-1) ∧ b = .int .i64 0
 | m + 1, a, b => a = .int .i64 (pv (F (bestK F m))) ∧ b = .int .i64 (bestK F m : Int)
def Bs (w : World) (l : List Int) (b r : Nat) : Nat → Value → World → Prop
 | 0, s, X => s = .int .i64 (-1) ∧ OB w #[.int .i64 0, .int .i64 0, .slice none 0 0, .slice none 0 0] X
 | m + 1, s, X => s = .int .i64 (ordS l b r (bestK (ordS l b r) m) : Int) ∧ ∃ pa pc ea ec, OB w (riceC (bestRc l b r (bestK (ordS l b r) m)) pa pc ea ec) X ∧ RcAt X (bestRc l b r (bestK (ordS l b r) m)) pa ea ∧ (∀ g, blockOf pa = some g → w.heap.size + 1 < g) ∧ (∀ g, blockOf ea = some g → w.heap.size + 1 < g)
theorem Bs.low {w : World} {l : List Int} {b r n : Nat} {s : Value} {X X' : World} (h : Bs w l b r n s X) (hb : Below X.heap.size X X') : Bs w l b r n s X' := by
 cases n with
 | zero => exact ⟨h.1, h.2.low hb⟩
 | succ m =>
  obtain ⟨h1, pa, pc, ea, ec, h2, h3, h4, h5⟩ := h
  exact ⟨h1, pa, pc, ea, ec, h2.low hb, h3.below hb, h4, h5⟩
theorem Bs.below {w : World} {l : List Int} {b r n : Nat} {s : Value} {X : World} (h : Bs w l b r n s X) : Below w.heap.size w X := by
 cases n with
 | zero => exact h.2.below
 | succ m => obtain ⟨h1, pa, pc, ea, ec, h2, _⟩ := h; exact h2.below
theorem Bs.lt {w : World} {l : List Int} {b r n : Nat} {s : Value} {X : World} (h : Bs w l b r n s X) : w.heap.size + 1 < X.heap.size := by
 cases n with
 | zero => exact h.2.lt
 | succ m => obtain ⟨h1, pa, pc, ea, ec, h2, _⟩ := h; exact h2.lt
theorem Two.new (w : World) (o : Int) : Two (fun i => w.heap.size ≤ i) w.heap.size w 0 o (.slice none 0 0) (.slice none 0 0) (.slice none 0 0) (.slice none 0 0) [] [] (w.alloc (.cells #[.int .i64 0, .int .i64 o, .slice none 0 0, .slice none 0 0] 25)) :=
 ⟨fun i hi => hi, Stays.of_below ((Below.refl _ _).alloc (Nat.le_refl _) _) _, heap_alloc_new _ _, World.ownsRow_nil _ _ _ _, World.ownsRow_nil _ _ _ _, fun g hg => by cases hg⟩
theorem Two.bel {w X : World} {mm oo : Int} {b2 b3 vP vE : Value} {P E : List Int} (h : Two (fun i => w.heap.size ≤ i) w.heap.size w mm oo b2 b3 vP vE P E X) : Below w.heap.size w X :=
 h.fr.below (Nat.le_refl _) (fun i hi hs => by have : w.heap.size ≤ i := hs; omega)
theorem Bs.ways {w : World} {l : List Int} {b r o : Nat} {s : Value} {X : World} (h : Bs w l b r o s X) : (o = 0 ∧ s = .int .i64 (-1)) ∨ (∃ m, o = m + 1 ∧ s = .int .i64 (ordS l b r (bestK (ordS l b r) m) : Int)) := by
 cases o with
 | zero => exact Or.inl ⟨rfl, h.1⟩
 | succ m => exact Or.inr ⟨m, rfl, h.1⟩
theorem Bs.box {w : World} {l : List Int} {b r o : Nat} {s : Value} {X : World} (h : Bs w l b r o s X) : ∃ a0 a1 a2 a3, OB w #[a0, a1, a2, a3] X := by
 cases o with
 | zero => exact ⟨_, _, _, _, h.2⟩
 | succ m => obtain ⟨h1, pa, pc, ea, ec, h2, _⟩ := h; exact ⟨_, _, _, _, h2⟩
theorem Bs.skip {w : World} {l : List Int} {b r m : Nat} {s : Value} {X : World} (h : Bs w l b r (m + 1) s X) (hk : bestK (ordS l b r) (m + 1) = bestK (ordS l b r) m) : Bs w l b r (m + 1 + 1) s X := by
 obtain ⟨h1, pa, pc, ea, ec, h2⟩ := h
 exact ⟨by rw [hk]; exact h1, pa, pc, ea, ec, by rw [hk]; exact h2⟩
theorem Bs.take {w : World} {l : List Int} {b r o : Nat} {X : World} {pa ea : Option Addr} {pc ec : Nat} (hk : bestK (ordS l b r) o = o) (h1 : OB w (riceC (bestRc l b r o) pa pc ea ec) X) (h2 : RcAt X (bestRc l b r o) pa ea) (h3 : ∀ g, blockOf pa = some g → w.heap.size + 1 < g) (h4 : ∀ g, blockOf ea = some g → w.heap.size + 1 < g) : Bs w l b r (o + 1) (.int .i64 (ordS l b r o : Int)) X := by
 exact ⟨by rw [hk], pa, pc, ea, ec, by rw [hk]; exact ⟨h1, h2, h3, h4⟩⟩
theorem ordS_le (l : List Int) (hs : ShY l) (b r o : Nat) (ho : o ≤ 4) : ordS l b r o ≤ 18000000000000 := by
 have h16 : 2 ^ o ≤ 16 := Nat.pow_le_pow_right (by decide) ho
 have e2 := chS_congr (capF (ordF l b r o)) (ordF l b r o) (2 ^ o) (fun i k hk => cap_eq _ i k hk)
 have := chS_le (capF (ordF l b r o)) (fun i => by unfold capF; rw [if_pos (by decide)]; exact ordF_14 l hs b r o i) (2 ^ o)
 unfold ordS
 rw [← e2]
 omega
theorem set4_o {wx : World} (n : Nat) (v0 v1 v2 v3 : Value) : Stays (only n) wx ((((wx.setCell ⟨n, 0, none⟩ v0).setCell ⟨n, 1, none⟩ v1).setCell ⟨n, 2, none⟩ v2).setCell ⟨n, 3, none⟩ v3) :=
 ((((Stays.refl (only n) wx).setCell ⟨n, 0, none⟩ v0 (Or.inl rfl)).setCell ⟨n, 1, none⟩ v1 (Or.inl rfl)).setCell ⟨n, 2, none⟩ v2 (Or.inl rfl)).setCell ⟨n, 3, none⟩ v3 (Or.inl rfl)
theorem Bs.next {w wo X : World} {l : List Int} {b r o : Nat} {s : Value} {pa ea : Option Addr} {pc ec : Nat} (hB : Bs w l b r o s wo) (ho : o ≤ 4)
  (hT : Two (fun i => wo.heap.size ≤ i) wo.heap.size wo 0 (o : Int) (.slice pa (chP (ordF l b r o) (2 ^ o)).length pc) (.slice ea (chE (2 ^ o)).length ec) (.slice pa (chP (ordF l b r o) (2 ^ o)).length pc) (.slice ea (chE (2 ^ o)).length ec) (chP (ordF l b r o) (2 ^ o)) (chE (2 ^ o)) X) (hk : bestK (ordS l b r) o = o) :
  Bs w l b r (o + 1) (.int .i64 (ordS l b r o : Int)) ((((X.setCell ⟨w.heap.size + 1, 0, none⟩ (.int .i64 0)).setCell ⟨w.heap.size + 1, 1, none⟩ (.int .i64 (o : Int))).setCell ⟨w.heap.size + 1, 2, none⟩ (.slice pa (chP (ordF l b r o) (2 ^ o)).length pc)).setCell ⟨w.heap.size + 1, 3, none⟩ (.slice ea (chE (2 ^ o)).length ec)) := by
 obtain ⟨a0, a1, a2, a3, hOB⟩ := (hB.low hT.bel).box
 have hlt := hB.lt
 have h16 : 2 ^ o ≤ 16 := Nat.pow_le_pow_right (by decide) ho
 have hst := set4_o (wx := X) (w.heap.size + 1)
 have hpb : ∀ g, blockOf pa = some g → w.heap.size + 1 < g := fun g hg => by
  have := (hT.oP.lt g (by cases pa with | none => cases hg | some a => exact hg)).1
  omega
 have heb : ∀ g, blockOf ea = some g → w.heap.size + 1 < g := fun g hg => by
  have := (hT.oE.lt g (by cases ea with | none => cases hg | some a => exact hg)).1
  omega
 have hP := own_ints hT.oP (by rw [chP_len]; omega) (fun n hn => by
  unfold chP at hn
  obtain ⟨i, _, rfl⟩ := List.mem_map.1 hn
  have := bestK_le (ordF l b r o i) 14
  omega)
 have hE := own_ints hT.oE (by rw [chE_len]; omega) (fun n hn => by
  unfold chE at hn
  rw [(List.mem_replicate.1 hn).2]; omega)
 refine Bs.take (pc := pc) (ec := ec) hk ⟨?_, ?_, ?_⟩ ⟨hP.stays (hst _ _ _ _) (fun g hg e => by have := hpb g hg; unfold only at e; omega), hE.stays (hst _ _ _ _) (fun g hg e => by have := heb g hg; unfold only at e; omega), ?_, ?_, ?_, ?_⟩ hpb heb
 ·rw [set4_d _ _ _ _ _ _ (by omega)]; exact hOB.rb
 ·exact set4_a _ _ _ _ _ hOB.bb
 ·exact (((hOB.below.setCell (Nat.le_succ _) _).setCell (Nat.le_succ _) _).setCell (Nat.le_succ _) _).setCell (Nat.le_succ _) _
 ·show (-9223372036854775808 : Int) ≤ 0; omega
 ·show (0 : Int) ≤ 9223372036854775807; omega
 ·show (-9223372036854775808 : Int) ≤ (o : Int); omega
 ·show (o : Int) ≤ 9223372036854775807; omega
theorem xbest_main (b q r : Nat) (hC : Cut b q r) (hq4 : q ≤ 4) (hall : ∀ o' : Nat, q < o' → o' ≤ 4 → ¬ cutOk b r o') (l : List Int) (hs : ShY l) (lo : Option Addr) (cap : Nat) (hc : l.length ≤ cap) (h0 : lo = none → cap = 0) (w : World) (hl : IntsAt w lo l) (hn : l.length = b - r) :
  Calls Tryz.prog 35 #[.int .i64 (b : Int), .int .i64 (r : Int), .slice lo l.length cap] w fun en w' => ∃ pa pc ea ec, en = .returned (.tuple #[riceV (bestRc l b r (bestK (ordS l b r) q)) pa pc ea ec, .int .i64 (ordS l b r (bestK (ordS l b r) q) : Int)]) ∧ RcAt w' (bestRc l b r (bestK (ordS l b r) q)) pa ea ∧ Below w.heap.size w w' ∧ (∀ g, blockOf pa = some g → w.heap.size ≤ g) ∧ (∀ g, blockOf ea = some g → w.heap.size ≤ g) := by
 obtain ⟨i3, h3a, h3b, h3c, h3d⟩ := int_info
 have KS : Hid (∀ (o : Nat) (B : Bool) wx, shapeB ⟨0, o, [], []⟩ b r = B → Calls Tryz.prog 81 #[.agg #[.int .i64 0, .int .i64 (o : Int), .slice none 0 0, .slice none 0 0], .int .i64 (b : Int), .int .i64 (r : Int)] wx fun en w' => en = .returned (.bool B) ∧ Below wx.heap.size wx w') := fun o B wx hB => by rw [← hB]; exact xshape_spec ⟨0, o, [], []⟩ b r none 0 none 0 wx
 have HSY : Hid (∀ o : Nat, o ≤ q → shapeB ⟨0, o, [], []⟩ b r = true) := fun o ho => decide_eq_true ⟨⟨Int.le_refl _, (show (0 : Int) ≤ 1 by decide)⟩, (hC.to o ho).ok⟩
 have HSN : Hid (∀ o : Nat, o ≤ 4 → ¬ o ≤ q → shapeB ⟨0, o, [], []⟩ b r = false) := fun o ho hq => decide_eq_false (fun h => hall o (by omega) ho h.2)
 have HCT : Hid (∀ o : Nat, o ≤ q → Cut b o r) := fun o ho => hC.to o ho
 have HSX : Hid (ShX l) := hs.x
 have HSZ : Hid (ShY l) := hs
 have HLI : Hid (IntsAt w lo l) := hl
 have hl5 := hs.2
 have hb2 := hC.b2
 have hr2 := hC.r2
 have hrb := hC.rb
 have hbn : ((l.length : Int) != (b : Int) - (r : Int)) = false := by rw [bne_eq_false_iff_eq]; omega
 have HN : Hid (l.length = b - r) := hn
 have HOB : Hid (OB w #[.int .i64 0, .int .i64 0, .slice none 0 0, .slice none 0 0] ((w.alloc (.cells #[.int .i64 0, .int .i64 0, .slice none 0 0, .slice none 0 0] 25)).alloc (.cells #[.int .i64 0, .int .i64 0, .slice none 0 0, .slice none 0 0] 25))) := OB.new w
 clear hC hall hs hl hn
 go_enter Tryz.func35, Tryz.ntmps35
 go_wp2_with fail
 generalize hwa : World.alloc _ _ = wa at *
 clear hwa
 go_loopw [9, 10] (fun s9 s10 wr => ∃ o : Nat, o ≤ 5 ∧ s10 = .int .i64 (o : Int) ∧ Bs w l b r (min o (q + 1)) s9 wr) (fun _ s10 _ => 5 - (intOf s10).toNat)
 case atStart => exact ⟨0, by omega, rfl, by rw [Nat.zero_min]; exact ⟨rfl, HOB.out⟩⟩
 case round =>
  clear HOB
  obtain ⟨wo, hwo⟩ : ∃ wo, wo = wr := ⟨_, rfl⟩
  subst hwo
  obtain ⟨o, ho, rfl, hob⟩ := hrel
  have HO : Hid (Bs w l b r (min o (q + 1)) u9 wo) := hob
  clear hob
  by_cases hlt : o ≤ 4
  ·by_cases hoq : o ≤ q
   ·have hmin : min o (q + 1) = o := by omega
    have HMN : Hid (min (o + 1) (q + 1) = o + 1) := by show _ = _; omega
    rw [hmin] at HO
    clear hmin
    have HT2 : Hid (Two (fun i => wo.heap.size ≤ i) wo.heap.size wo 0 (o : Int) (.slice none 0 0) (.slice none 0 0) (.slice none 0 0) (.slice none 0 0) [] [] (wo.alloc (.cells #[.int .i64 0, .int .i64 (o : Int), .slice none 0 0, .slice none 0 0] 25))) := Two.new wo o
    have KSo := fun wx => KS.out o true wx (HSY.out o hoq)
    have hCo := HCT.out o hoq
    have hN16 : 2 ^ o ≤ 16 := Nat.pow_le_pow_right (by decide) hlt
    have hN1 : 1 ≤ 2 ^ o := Nat.pow_pos (by decide)
    have hpow : (2 : Int) ^ o = ((2 ^ o : Nat) : Int) := by simp
    have HSB : Hid (∀ o', o' ≤ 4 → ordS l b r o' ≤ 18000000000000) := fun o' ho' => ordS_le l HSZ.out b r o' ho'
    have HG14 : Hid (∀ i, ordF l b r o i 14 ≤ 1100000000000) := fun i => ordF_14 l HSZ.out b r o i
    have HG : Hid (∀ i k, k ≤ 30 → ordF l b r o i k ≤ 1100000000000 ∨ ordF l b r o i k = 1000000000000000) := fun i k hk => ordF_le l HSX.out b r o i k hk
    have HCS : Hid (∀ i, i ≤ 16 → chS (ordF l b r o) i ≤ 18000000000000) := fun i hi => by
     have e2 := chS_congr (capF (ordF l b r o)) (ordF l b r o) i (fun i k hk => cap_eq _ i k hk)
     have := chS_le (capF (ordF l b r o)) (fun i => by unfold capF; rw [if_pos (by decide)]; exact ordF_14 l HSZ.out b r o i) i
     rw [← e2]
     omega
    have KP : Hid (∀ (i : Nat) (P E : List Int) pa pc ea ec wx, i < 2 ^ o → Calls Tryz.prog 82 #[.agg #[.int .i64 0, .int .i64 (o : Int), .slice pa P.length pc, .slice ea E.length ec], .int .i64 (b : Int), .int .i64 (r : Int), .int .i64 (i : Int)] wx fun en w' => en = .returned (.tuple #[.int .i64 (frN b o r i : Int), .int .i64 (frN b o r (i + 1) : Int)]) ∧ Below wx.heap.size wx w') := fun i P E pa pc ea ec wx hi => xpart_spec ⟨0, o, P, E⟩ b o r i hCo rfl hi pa pc ea ec wx
    have HPB : Hid (∀ i, i < 2 ^ o → frN b o r i ≤ frN b o r (i + 1) ∧ frN b o r (i + 1) ≤ l.length ∧ (partN l b o r i).length = frN b o r (i + 1) - frN b o r i) := fun i hi => by
     have h1 := frN_mono b o r i
     have h2 := frN_bound hCo (i + 1) hi
     have h3 := HN.out
     refine ⟨h1, by omega, ?_⟩
     unfold partN
     rw [List.length_take, List.length_drop]
     omega
    have HOS : Hid (ordS l b r o = chS (ordF l b r o) (2 ^ o)) := rfl
    have HRC : Hid (bestRc l b r o = ⟨0, o, chP (ordF l b r o) (2 ^ o), chE (2 ^ o)⟩) := rfl
    have HGD : Hid (∀ i k, ordF l b r o i k = costF (partN l b o r i) k) := fun i k => rfl
    generalize hGG : ordF l b r o = G at *
    have HGE : Hid (ordF l b r o = G) := hGG
    clear hCo hGG
    go_wp2_with fail
    generalize hw2 : World.alloc _ _ = w2 at *
    clear hw2
    refine (KSo w2).mono ?_
    rintro e w3 ⟨rfl, hb3⟩
    have HT3 : Hid (Two (fun i => wo.heap.size ≤ i) wo.heap.size wo 0 (o : Int) (.slice none 0 0) (.slice none 0 0) (.slice none 0 0) (.slice none 0 0) [] [] w3) := HT2.out.low hb3
    clear hb3 HT2 KSo
    generalize hNN : 2 ^ o = N at *
    have HNN : Hid (2 ^ o = N) := hNN
    clear hNN
    go_wp2_with fail
    go_loopw [12, 13] (fun s12 s13 wy => ∃ (i : Nat) (vP vE : Value), i ≤ N ∧ s12 = .int .i64 (chS G i : Int) ∧ s13 = .int .i64 (i : Int) ∧ Two (fun i => wo.heap.size ≤ i) wo.heap.size wo 0 (o : Int) vP vE vP vE (chP G i) (chE i) wy) (fun _ s13 _ => N - (intOf s13).toNat)
    case atStart => exact ⟨0, _, _, Nat.zero_le _, rfl, rfl, HT3.out⟩
    case round =>
     clear HT3
     obtain ⟨i, vP, vE, hi, rfl, rfl, htw⟩ := hrel
     obtain ⟨pa, pc, ea, ec, rfl, rfl⟩ := htw.shape
     have HT : Hid (Two (fun i => wo.heap.size ≤ i) wo.heap.size wo 0 (o : Int) (.slice pa (chP G i).length pc) (.slice ea (chE i).length ec) (.slice pa (chP G i).length pc) (.slice ea (chE i).length ec) (chP G i) (chE i) wr) := htw
     clear htw
     have hcs := HCS.out i (by omega)
     obtain ⟨y0, y1, y2, y3⟩ := HT.out.cells
     by_cases hil : i < N
     ·--@A
      have kp := KP.out i (chP G i) (chE i) pa pc ea ec wr hil
      obtain ⟨hft, htl, hXl⟩ := HPB.out i hil
      obtain ⟨xo, hsl, hxo⟩ := slice_ints2 lo l.length cap (frN b o r i) (frN b o r (i + 1)) hft (by omega) h0
      have HX : Hid (IntsAt w xo (partN l b o r i)) := by
       have hh := HLI.out.part (frN b o r i) (frN b o r (i + 1) - frN b o r i) (by omega) xo (fun bb off e hp => hxo bb off e (by omega))
       exact hh
      have HXS : Hid (ShX (partN l b o r i)) := HSX.out.part b o r i
      have HGI : Hid (∀ k, G i k = costF (partN l b o r i) k) := fun k => HGD.out i k
      have HG4 : Hid (G i 14 ≤ 1100000000000) := HG14.out i
      have HGB : Hid (∀ k, k ≤ 14 → G i k ≤ 1100000000000 ∨ G i k = 1000000000000000) := fun k hk => HG.out i k (by omega)
      have HCN : Hid (chS G (i + 1) = chS G i + (4 + G i (bestK (G i) 14))) := rfl
      generalize frN b o r i = f at *
      generalize frN b o r (i + 1) = tt at *
      generalize partN l b o r i = X at *
      have KC : Hid (∀ (k : Nat) wx, k ≤ 14 → Hid (Two (fun i => wo.heap.size ≤ i) wo.heap.size wo 0 (o : Int) (.slice pa (chP G i).length pc) (.slice ea (chE i).length ec) (.slice pa (chP G i).length pc) (.slice ea (chE i).length ec) (chP G i) (chE i) wx) → Calls Tryz.prog 83 #[.slice xo (tt - f) (cap - f), .int .i64 (k : Int)] wx fun e w' => e = .returned (.int .i64 (pv (G i k))) ∧ Hid (Two (fun i => wo.heap.size ≤ i) wo.heap.size wo 0 (o : Int) (.slice pa (chP G i).length pc) (.slice ea (chE i).length ec) (.slice pa (chP G i).length pc) (.slice ea (chE i).length ec) (chP G i) (chE i) w')) := fun k wx hk hh => by
       have hc := xcost_spec X k xo (cap - f) HXS.out wx (HX.out.below (HO.out.below.trans (hh.out.bel.mono HO.out.below.size)))
       rw [hXl] at hc
       refine hc.mono fun e w' hx => ?_
       obtain ⟨h1, n, rfl⟩ := hx
       refine ⟨?_, hh.out.low (below_drewN _ _)⟩
       rw [h1, costI_pv X HXS.out k (by omega), HGI.out k]
      have hsl' := hsl
      clear hsl hxo hXl HXS HX HGI
      go_wp2_with fail
      refine kp.mono ?_
      rintro e w4 ⟨rfl, hb4⟩
      have HT4 : Hid (Two (fun i => wo.heap.size ≤ i) wo.heap.size wo 0 (o : Int) (.slice pa (chP G i).length pc) (.slice ea (chE i).length ec) (.slice pa (chP G i).length pc) (.slice ea (chE i).length ec) (chP G i) (chE i) w4) := HT.out.low hb4
      clear hb4 kp HT y0 y1 y2 y3
      generalize hGi : G i = F at *
      go_wp2_with fail
      go_loopw [16, 17, 18] (fun s16 s17 s18 wy => ∃ kk : Nat, kk ≤ 15 ∧ s18 = .int .i64 (kk : Int) ∧ Ks F kk s16 s17 ∧ Two (fun i => wo.heap.size ≤ i) wo.heap.size wo 0 (o : Int) (.slice pa (chP G i).length pc) (.slice ea (chE i).length ec) (.slice pa (chP G i).length pc) (.slice ea (chE i).length ec) (chP G i) (chE i) wy) (fun _ _ s18 _ => 15 - (intOf s18).toNat)
      case atStart => exact ⟨0, by omega, rfl, ⟨rfl, rfl⟩, HT4.out⟩
      case round =>
       clear HT4
       obtain ⟨kk, hkk, rfl, hks, htw⟩ := hrel
       have HT : Hid (Two (fun i => wo.heap.size ≤ i) wo.heap.size wo 0 (o : Int) (.slice pa (chP G i).length pc) (.slice ea (chE i).length ec) (.slice pa (chP G i).length pc) (.slice ea (chE i).length ec) (chP G i) (chE i) wr) := htw
       clear htw
       by_cases hk14 : kk ≤ 14
       ·have kc := KC.out kk wr hk14 HT
        have hg := HGB.out kk hk14
        have hwc := hsl' wr
        rcases Nat.eq_zero_or_pos kk with hz | hz
        ·subst hz
         obtain ⟨rfl, rfl⟩ := hks
         generalize hFk : F 0 = v at *
         have HFK : Hid (Ks F 1 (.int .i64 (pv v)) (.int .i64 0)) := by rw [← hFk]; exact ⟨rfl, rfl⟩
         by_cases hvi : v < 1000000000000000
         ·rw [pv_lt hvi] at kc HFK
          clear hFk
          go_wp2_with fail
          refine kc.mono ?_
          rintro e w5 ⟨rfl, h5⟩
          go_wp2_with fail
          go_roundw
          case rel => exact ⟨1, by omega, by go_num, HFK.out, h5.out⟩
          case measure => simp [intOf]
         ·rw [pv_ge hvi] at kc HFK
          clear hFk hvi hg
          generalize hmm : (-1 : Int) = mm at kc HFK
          have hm1 : mm = -1 := hmm.symm
          subst hm1
          clear hmm
          go_wp2_with fail
          refine kc.mono ?_
          rintro e w5 ⟨rfl, h5⟩
          go_wp2_with fail
          go_roundw
          case rel => exact ⟨1, by omega, by go_num, HFK.out, h5.out⟩
          case measure => simp [intOf]
        ·obtain ⟨m, hm⟩ : ∃ m, kk = m + 1 := ⟨kk - 1, by omega⟩
         have HM : Hid (kk = m + 1) := hm
         have hks2 : Ks F (m + 1) u16 u17 := by rw [← hm]; exact hks
         obtain ⟨rfl, rfl⟩ := hks2
         clear hks
         have HBK : Hid (bestK F kk = if F kk < F (bestK F m) then kk else bestK F m) := by show _ = _; rw [hm]; rfl
         have HKN : Hid (∀ a b, a = .int .i64 (pv (F (bestK F kk))) → b = .int .i64 (bestK F kk : Int) → Ks F (kk + 1) a b) := fun a b h1 h2 => ⟨h1, h2⟩
         have hbk := HGB.out (bestK F m) (by have := bestK_le F m; omega)
         generalize bestK F m = c at *
         generalize hFc : F c = vc at *
         generalize hFk : F kk = v at *
         clear hm
         by_cases hlv : v < vc
         ·have HKX : Hid (Ks F (kk + 1) (.int .i64 (pv v)) (.int .i64 (kk : Int))) := by
           have e := HBK.out
           rw [if_pos hlv] at e
           exact HKN.out _ _ (by rw [e, hFk]) (by rw [e])
          rw [pv_lt (n := v) (by omega)] at kc HKX
          clear HBK HKN hFc hFk
          by_cases hvi : vc < 1000000000000000
          ·rw [pv_lt hvi]
           go_wp2_with fail
           refine kc.mono ?_
           rintro e w5 ⟨rfl, h5⟩
           go_wp2_with fail
           go_roundw
           case rel => exact ⟨kk + 1, by omega, by go_num, HKX.out, h5.out⟩
           case measure => simp [intOf]; omega
          ·rw [pv_ge hvi]
           clear hvi
           go_wp2_with fail
           refine kc.mono ?_
           rintro e w5 ⟨rfl, h5⟩
           go_wp2_with fail
           go_roundw
           case rel => exact ⟨kk + 1, by omega, by go_num, HKX.out, h5.out⟩
           case measure => simp [intOf]; omega
         ·have HKX : Hid (Ks F (kk + 1) (.int .i64 (pv vc)) (.int .i64 (c : Int))) := by
           have e := HBK.out
           rw [if_neg hlv] at e
           exact HKN.out _ _ (by rw [e, hFc]) (by rw [e])
          clear HBK HKN hFc hFk
          by_cases hvi : v < 1000000000000000
          ·rw [pv_lt hvi] at kc
           rw [pv_lt (n := vc) (by omega)] at HKX ⊢
           go_wp2_with fail
           refine kc.mono ?_
           rintro e w5 ⟨rfl, h5⟩
           go_wp2_with fail
           go_roundw
           case rel => exact ⟨kk + 1, by omega, by go_num, HKX.out, h5.out⟩
           case measure => simp [intOf]; omega
          ·rw [pv_ge hvi] at kc
           clear hvi hlv
           go_wp2_with fail
           refine kc.mono ?_
           rintro e w5 ⟨rfl, h5⟩
           go_wp2_with fail
           go_roundw
           case rel => exact ⟨kk + 1, by omega, by go_num, HKX.out, h5.out⟩
           case measure => simp [intOf]; omega
       ·have h15 : kk = 15 := by omega
        subst h15
        have hbk : F (bestK F 14) ≤ 1100000000000 := Nat.le_trans (bestK_at F 14) HG4.out
        have hks3 : u16 = .int .i64 (F (bestK F 14) : Int) ∧ u17 = .int .i64 (bestK F 14 : Int) := by rw [← pv_lt (n := F (bestK F 14)) (by omega)]; exact hks
        clear hks
        obtain ⟨rfl, rfl⟩ := hks3
        have HPS : Hid (chP G (i + 1) = chP G i ++ [(bestK F 14 : Int)]) := by show _ = _; rw [← hGi]; exact chP_succ G i
        have HES : Hid (chE (i + 1) = chE i ++ [-1]) := chE_succ i
        rw [← hGi] at HCN
        have HCM : Hid (chS G (i + 1) = chS G i + (4 + F (bestK F 14))) := by show _ = _; rw [← hGi]; rfl
        have hLP : (chP G i).length = i := chP_len G i
        have hLE : (chE i).length = i := chE_len i
        have hi17 : i ≤ 16 := by omega
        have HLP : Hid ((chP G i).length = i) := hLP
        have HLE : Hid ((chE i).length = i) := hLE
        have hlp : (chP G i).length ≤ 100 := by omega
        have hle : (chE i).length ≤ 100 := by omega
        clear hLP hLE HCN KC
        generalize hFv : F (bestK F 14) = v at *
        generalize bestK F 14 = kb at *
        obtain ⟨wz, hwz⟩ : ∃ wz, wz = wr := ⟨_, rfl⟩
        subst hwz
        have HTD : Hid (Two (fun i => wo.heap.size ≤ i) wo.heap.size wo 0 (o : Int) (.slice pa (chP G i).length pc) (.slice ea (chE i).length ec) (.slice pa (chP G i).length pc) (.slice ea (chE i).length ec) (chP G i) (chE i) wz.drew) := HT.out.drew
        obtain ⟨y0, y1, y2, y3⟩ := HT.out.cells
        have HCE : Hid (∀ b2 b3 vP vE P E wx, Two (fun i => wo.heap.size ≤ i) wo.heap.size wo 0 (o : Int) b2 b3 vP vE P E wx → wx.cell? ⟨wo.heap.size, 0, none⟩ = some (.int .i64 0) ∧ wx.cell? ⟨wo.heap.size, 1, none⟩ = some (.int .i64 (o : Int)) ∧ wx.cell? ⟨wo.heap.size, 2, none⟩ = some b2 ∧ wx.cell? ⟨wo.heap.size, 3, none⟩ = some b3) := fun _ _ _ _ _ _ _ h => h.cells
        go_wp2_with fail
        refine wp_region_noPanic ?_
        refine Till.begin (n := 10) (S := fun wx => wx.cell? ⟨wo.heap.size, 2, none⟩ = some (.slice pa (chP G i).length pc) ∧ wx.cell? ⟨wo.heap.size, 3, none⟩ = some (.slice ea (chE i).length ec)) (by kernel_rfl) (HCE.out _ _ _ _ _ _ _ HTD.out).2.2 (fun hS => ?_)
        refine Till.take (i := 0) (v := .pointer (some ⟨wo.heap.size, 2, none⟩)) rfl (by kernel_rfl) (by kernel_rfl) (by kernel_rfl) (fun _ _ _ h => h) (by decide) (Waits.of (by kernel_rfl)) (by kernel_rfl) (Or.inl ⟨by rfl, fun w hSw => by (obtain ⟨s2, s3⟩ := hSw; go_simp)⟩) hS ?_
        try simp only [Act.put, List.getElem_toArray, List.getElem_cons_succ, List.getElem_cons_zero, List.setIfInBounds_toArray, List.set_cons_zero, List.set_cons_succ]
        refine Till.take (i := 1) (v := (.slice pa (chP G i).length pc)) rfl (by kernel_rfl) (by kernel_rfl) (by kernel_rfl) (fun _ _ _ h => h) (by decide) (Waits.of (by kernel_rfl)) (by kernel_rfl) (Or.inl ⟨by rfl, fun w hSw => by (obtain ⟨s2, s3⟩ := hSw; go_simp)⟩) hS ?_
        try simp only [Act.put, List.getElem_toArray, List.getElem_cons_succ, List.getElem_cons_zero, List.setIfInBounds_toArray, List.set_cons_zero, List.set_cons_succ]
        refine Till.take (i := 2) (v := .int .i64 (kb : Int)) rfl (by kernel_rfl) (by kernel_rfl) (by kernel_rfl) (fun _ _ _ h => h) (by decide) (Waits.of (by kernel_rfl)) (by kernel_rfl) (Or.inl ⟨by rfl, fun w hSw => by (obtain ⟨s2, s3⟩ := hSw; go_simp)⟩) hS ?_
        try simp only [Act.put, List.getElem_toArray, List.getElem_cons_succ, List.getElem_cons_zero, List.setIfInBounds_toArray, List.set_cons_zero, List.set_cons_succ]
        refine Till.take (i := 5) (v := .pointer (some ⟨wo.heap.size, 3, none⟩)) rfl (by kernel_rfl) (by kernel_rfl) (by kernel_rfl) (fun _ _ _ h => h) (by decide) (Waits.of (by kernel_rfl)) (by kernel_rfl) (Or.inl ⟨by rfl, fun w hSw => by (obtain ⟨s2, s3⟩ := hSw; go_simp)⟩) hS ?_
        try simp only [Act.put, List.getElem_toArray, List.getElem_cons_succ, List.getElem_cons_zero, List.setIfInBounds_toArray, List.set_cons_zero, List.set_cons_succ]
        refine Till.take (i := 6) (v := (.slice ea (chE i).length ec)) rfl (by kernel_rfl) (by kernel_rfl) (by kernel_rfl) (fun _ _ _ h => h) (by decide) (Waits.of (by kernel_rfl)) (by kernel_rfl) (Or.inl ⟨by rfl, fun w hSw => by (obtain ⟨s2, s3⟩ := hSw; go_simp)⟩) hS ?_
        try simp only [Act.put, List.getElem_toArray, List.getElem_cons_succ, List.getElem_cons_zero, List.setIfInBounds_toArray, List.set_cons_zero, List.set_cons_succ]
        refine Till.ready (rs := [3, 7]) (by kernel_rfl) (by simp) ?_
        refine Ups.cons rfl (fun K hK => ?_) ?_
        ·go_simp
         have hS3 := (HCE.out _ _ _ _ _ _ _ (HTD.out.alloc (.cells #[.int .i64 (kb : Int)] 3))).2.2
         refine hK.out _ _ (fun _ => hS3) ?_
         clear hK K
         try simp only [Act.put, List.getElem_toArray, List.getElem_cons_succ, List.getElem_cons_zero, List.setIfInBounds_toArray, List.set_cons_zero, List.set_cons_succ]
         refine Till.ready (rs := [4, 7]) (by kernel_rfl) (by simp) ?_
         refine Ups.cons rfl (fun K hK => ?_) ?_
         ·refine step_append_lies _ (by rfl) _ _ _ (by rfl) (wo.heap.size + 1) 3 i3 (.int .i64 0) 1 8 undI3 h3a h3b h3c h3d rfl (by omega) (.slice pa (chP G i).length pc) (chP G i).length (intsC (chP G i)) (by rfl) ((HTD.out.alloc (.cells #[.int .i64 (kb : Int)] 3)).oP) ⟨wz.heap.size, 0, none⟩ 1 1 [.int .i64 (kb : Int)] (by rfl) (by rfl) (World.news_of_block (cs := #[.int .i64 (kb : Int)]) (t := 3) (fr := (0, 0)) (tmp_new wz.drew _)) (one_int _ _) (by omega) (by unfold maxLen; omega) (by omega) ((HTD.out.alloc (.cells #[.int .i64 (kb : Int)] 3)).lt) _ rfl ?_
          intro gP cP wP ownP groP hatP hltP
          have HTP : Hid (Two (fun i => wo.heap.size ≤ i) wo.heap.size wo 0 (o : Int) (.slice pa (chP G i).length pc) (.slice ea (chE i).length ec) (.slice (some ⟨gP, 0, none⟩) ((chP G i).length + 1) cP) (.slice ea (chE i).length ec) ((chP G i) ++ [(kb : Int)]) (chE i) wP) := (HTD.out.alloc (.cells #[.int .i64 (kb : Int)] 3)).pushP ownP groP hatP
          have hS4 := (HCE.out _ _ _ _ _ _ _ HTP.out).2.2
          refine hK.out _ _ (fun _ => hS4) ?_
          clear hK K
          try simp only [Act.put, List.getElem_toArray, List.getElem_cons_succ, List.getElem_cons_zero, List.setIfInBounds_toArray, List.set_cons_zero, List.set_cons_succ]
          refine Till.take (i := 9) (v := .pointer (some ⟨wo.heap.size, 2, none⟩)) rfl (by kernel_rfl) (by kernel_rfl) (by kernel_rfl) (fun _ _ _ h => h) (by decide) (Waits.of (by kernel_rfl)) (by kernel_rfl) (Or.inl ⟨by rfl, fun w hSw => by (obtain ⟨s2, s3⟩ := hSw; go_simp)⟩) hS4 ?_
          try simp only [Act.put, List.getElem_toArray, List.getElem_cons_succ, List.getElem_cons_zero, List.setIfInBounds_toArray, List.set_cons_zero, List.set_cons_succ]
          refine Till.ready (rs := [7]) (by kernel_rfl) (by simp) ?_
          refine Ups.cons rfl (fun K hK => ?_) Ups.nil
          go_simp
          have hS7 := (HCE.out _ _ _ _ _ _ _ (HTP.out.alloc (.cells #[.int .i64 (-1)] 3))).2.2
          refine hK.out _ _ (fun _ => hS7) ?_
          clear hK K
          try simp only [Act.put, List.getElem_toArray, List.getElem_cons_succ, List.getElem_cons_zero, List.setIfInBounds_toArray, List.set_cons_zero, List.set_cons_succ]
          refine Till.ready (rs := [8]) (by kernel_rfl) (by simp) ?_
          refine Ups.cons rfl (fun K hK => ?_) Ups.nil
          refine step_append_lies _ (by rfl) _ _ _ (by rfl) (wo.heap.size + 1) 3 i3 (.int .i64 0) 1 8 undI3 h3a h3b h3c h3d rfl (by omega) (.slice ea (chE i).length ec) (chE i).length (intsC (chE i)) (by rfl) ((HTP.out.alloc (.cells #[.int .i64 (-1)] 3)).oE) ⟨wP.heap.size, 0, none⟩ 1 1 [.int .i64 (-1)] (by rfl) (by rfl) (World.news_of_block (cs := #[.int .i64 (-1)]) (t := 3) (fr := (0, 0)) (tmp_new wP _)) (one_int _ _) (by omega) (by unfold maxLen; omega) (by omega) ((HTP.out.alloc (.cells #[.int .i64 (-1)] 3)).lt) _ rfl ?_
          intro gE cE wE ownE groE hatE hltE
          have HTE : Hid (Two (fun i => wo.heap.size ≤ i) wo.heap.size wo 0 (o : Int) (.slice pa (chP G i).length pc) (.slice ea (chE i).length ec) (.slice (some ⟨gP, 0, none⟩) ((chP G i).length + 1) cP) (.slice (some ⟨gE, 0, none⟩) ((chE i).length + 1) cE) ((chP G i) ++ [(kb : Int)]) ((chE i) ++ [(-1)]) wE) := (HTP.out.alloc (.cells #[.int .i64 (-1)] 3)).pushE ownE groE hatE
          have hS8 := (HCE.out _ _ _ _ _ _ _ HTE.out).2.2
          refine hK.out _ _ (fun _ => hS8) ?_
          clear hK K
          try simp only [Act.put, List.getElem_toArray, List.getElem_cons_succ, List.getElem_cons_zero, List.setIfInBounds_toArray, List.set_cons_zero, List.set_cons_succ]
          clear ownE groE hatE hltE ownP groP hatP hltP
          obtain ⟨z0, z1, z2, z3⟩ := HTE.out.cells
          have fz2 := HTE.out.frozen 2
          have fz3 := HTE.out.frozen 3
          refine Till.ready (rs := [10]) (by kernel_rfl) (by simp) ?_
          refine Ups.cons rfl (fun K hK => ?_) Ups.nil
          go_simp
          refine hK.out _ _ (fun h => Bool.noConfusion (Eq.trans (Eq.symm h) (by kernel_rfl : _ = true))) ?_
          clear hK K
          try simp only [Act.put, List.getElem_toArray, List.getElem_cons_succ, List.getElem_cons_zero, List.setIfInBounds_toArray, List.set_cons_zero, List.set_cons_succ]
          refine Till.ready (rs := [11]) (by kernel_rfl) (by simp) ?_
          refine Ups.cons rfl (fun K hK => ?_) Ups.nil
          go_simp
          refine hK.out _ _ (fun h => Bool.noConfusion (Eq.trans (Eq.symm h) (by kernel_rfl : _ = true))) ?_
          clear hK K
          try simp only [Act.put, List.getElem_toArray, List.getElem_cons_succ, List.getElem_cons_zero, List.setIfInBounds_toArray, List.set_cons_zero, List.set_cons_succ]
          refine Till.ready (rs := [12]) (by kernel_rfl) (by simp) ?_
          refine Ups.cons rfl (fun K hK => ?_) Ups.nil
          go_simp
          refine hK.out _ _ (fun h => Bool.noConfusion (Eq.trans (Eq.symm h) (by kernel_rfl : _ = true))) ?_
          clear hK K
          try simp only [Act.put, List.getElem_toArray, List.getElem_cons_succ, List.getElem_cons_zero, List.setIfInBounds_toArray, List.set_cons_zero, List.set_cons_succ]
          refine Till.done (by kernel_rfl) ?_
          clear z0 z1 z2 z3 fz2 fz3
          refine NoPanic.normal ?_
          go_wp2_with fail
          go_roundw
          case rel => exact ⟨i + 1, _, _, by omega, by rw [HCM.out]; go_num, by go_num, by rw [HPS.out, HES.out]; exact HTE.out.set⟩
          case measure => simp [intOf]; omega
         ·refine Ups.cons rfl (fun K hK => ?_) Ups.nil
          go_simp
          have hS7 := (HCE.out _ _ _ _ _ _ _ ((HTD.out.alloc (.cells #[.int .i64 (kb : Int)] 3)).alloc (.cells #[.int .i64 (-1)] 3))).2.2
          refine hK.out _ _ (fun _ => hS7) ?_
          clear hK K
          try simp only [Act.put, List.getElem_toArray, List.getElem_cons_succ, List.getElem_cons_zero, List.setIfInBounds_toArray, List.set_cons_zero, List.set_cons_succ]
          refine Till.ready (rs := [4]) (by kernel_rfl) (by simp) ?_
          refine Ups.cons rfl (fun K hK => ?_) Ups.nil
          refine step_append_lies _ (by rfl) _ _ _ (by rfl) (wo.heap.size + 1) 3 i3 (.int .i64 0) 1 8 undI3 h3a h3b h3c h3d rfl (by omega) (.slice pa (chP G i).length pc) (chP G i).length (intsC (chP G i)) (by rfl) (((HTD.out.alloc (.cells #[.int .i64 (kb : Int)] 3)).alloc (.cells #[.int .i64 (-1)] 3)).oP) ⟨wz.heap.size, 0, none⟩ 1 1 [.int .i64 (kb : Int)] (by rfl) (by rfl) (World.news_of_block (cs := #[.int .i64 (kb : Int)]) (t := 3) (fr := (0, 0)) (tmp_old wz.drew _ _)) (one_int _ _) (by omega) (by unfold maxLen; omega) (by omega) (((HTD.out.alloc (.cells #[.int .i64 (kb : Int)] 3)).alloc (.cells #[.int .i64 (-1)] 3)).lt) _ rfl ?_
          intro gP cP wP ownP groP hatP hltP
          have HTP : Hid (Two (fun i => wo.heap.size ≤ i) wo.heap.size wo 0 (o : Int) (.slice pa (chP G i).length pc) (.slice ea (chE i).length ec) (.slice (some ⟨gP, 0, none⟩) ((chP G i).length + 1) cP) (.slice ea (chE i).length ec) ((chP G i) ++ [(kb : Int)]) (chE i) wP) := ((HTD.out.alloc (.cells #[.int .i64 (kb : Int)] 3)).alloc (.cells #[.int .i64 (-1)] 3)).pushP ownP groP hatP
          have HTM : Hid (wP.heap[wz.heap.size + 1]? = some (.cells #[.int .i64 (-1)] 3 (0, 0))) := tmp_kept groP (tmp_next wz.drew _ _) (fun e => by have h9 := (HTD.out.oP.lt _ e).2; have h8 : wz.drew.heap.size = wz.heap.size := rfl; omega)
          have hS4 := (HCE.out _ _ _ _ _ _ _ HTP.out).2.2
          refine hK.out _ _ (fun _ => hS4) ?_
          clear hK K
          try simp only [Act.put, List.getElem_toArray, List.getElem_cons_succ, List.getElem_cons_zero, List.setIfInBounds_toArray, List.set_cons_zero, List.set_cons_succ]
          refine Till.take (i := 9) (v := .pointer (some ⟨wo.heap.size, 2, none⟩)) rfl (by kernel_rfl) (by kernel_rfl) (by kernel_rfl) (fun _ _ _ h => h) (by decide) (Waits.of (by kernel_rfl)) (by kernel_rfl) (Or.inl ⟨by rfl, fun w hSw => by (obtain ⟨s2, s3⟩ := hSw; go_simp)⟩) hS4 ?_
          try simp only [Act.put, List.getElem_toArray, List.getElem_cons_succ, List.getElem_cons_zero, List.setIfInBounds_toArray, List.set_cons_zero, List.set_cons_succ]
          refine Till.ready (rs := [8]) (by kernel_rfl) (by simp) ?_
          refine Ups.cons rfl (fun K hK => ?_) Ups.nil
          refine step_append_lies _ (by rfl) _ _ _ (by rfl) (wo.heap.size + 1) 3 i3 (.int .i64 0) 1 8 undI3 h3a h3b h3c h3d rfl (by omega) (.slice ea (chE i).length ec) (chE i).length (intsC (chE i)) (by rfl) HTP.out.oE ⟨wz.heap.size + 1, 0, none⟩ 1 1 [.int .i64 (-1)] (by rfl) (by rfl) (World.news_of_block (cs := #[.int .i64 (-1)]) (t := 3) (fr := (0, 0)) (HTM.out)) (one_int _ _) (by omega) (by unfold maxLen; omega) (by omega) HTP.out.lt _ rfl ?_
          intro gE cE wE ownE groE hatE hltE
          have HTE : Hid (Two (fun i => wo.heap.size ≤ i) wo.heap.size wo 0 (o : Int) (.slice pa (chP G i).length pc) (.slice ea (chE i).length ec) (.slice (some ⟨gP, 0, none⟩) ((chP G i).length + 1) cP) (.slice (some ⟨gE, 0, none⟩) ((chE i).length + 1) cE) ((chP G i) ++ [(kb : Int)]) ((chE i) ++ [(-1)]) wE) := HTP.out.pushE ownE groE hatE
          have hS8 := (HCE.out _ _ _ _ _ _ _ HTE.out).2.2
          refine hK.out _ _ (fun _ => hS8) ?_
          clear hK K
          try simp only [Act.put, List.getElem_toArray, List.getElem_cons_succ, List.getElem_cons_zero, List.setIfInBounds_toArray, List.set_cons_zero, List.set_cons_succ]
          clear ownE groE hatE hltE ownP groP hatP hltP
          obtain ⟨z0, z1, z2, z3⟩ := HTE.out.cells
          have fz2 := HTE.out.frozen 2
          have fz3 := HTE.out.frozen 3
          refine Till.ready (rs := [10]) (by kernel_rfl) (by simp) ?_
          refine Ups.cons rfl (fun K hK => ?_) Ups.nil
          go_simp
          refine hK.out _ _ (fun h => Bool.noConfusion (Eq.trans (Eq.symm h) (by kernel_rfl : _ = true))) ?_
          clear hK K
          try simp only [Act.put, List.getElem_toArray, List.getElem_cons_succ, List.getElem_cons_zero, List.setIfInBounds_toArray, List.set_cons_zero, List.set_cons_succ]
          refine Till.ready (rs := [11]) (by kernel_rfl) (by simp) ?_
          refine Ups.cons rfl (fun K hK => ?_) Ups.nil
          go_simp
          refine hK.out _ _ (fun h => Bool.noConfusion (Eq.trans (Eq.symm h) (by kernel_rfl : _ = true))) ?_
          clear hK K
          try simp only [Act.put, List.getElem_toArray, List.getElem_cons_succ, List.getElem_cons_zero, List.setIfInBounds_toArray, List.set_cons_zero, List.set_cons_succ]
          refine Till.ready (rs := [12]) (by kernel_rfl) (by simp) ?_
          refine Ups.cons rfl (fun K hK => ?_) Ups.nil
          go_simp
          refine hK.out _ _ (fun h => Bool.noConfusion (Eq.trans (Eq.symm h) (by kernel_rfl : _ = true))) ?_
          clear hK K
          try simp only [Act.put, List.getElem_toArray, List.getElem_cons_succ, List.getElem_cons_zero, List.setIfInBounds_toArray, List.set_cons_zero, List.set_cons_succ]
          refine Till.done (by kernel_rfl) ?_
          clear z0 z1 z2 z3 fz2 fz3
          refine NoPanic.normal ?_
          go_wp2_with fail
          go_roundw
          case rel => exact ⟨i + 1, _, _, by omega, by rw [HCM.out]; go_num, by go_num, by rw [HPS.out, HES.out]; exact HTE.out.set⟩
          case measure => simp [intOf]; omega
        ·refine Ups.cons rfl (fun K hK => ?_) Ups.nil
         go_simp
         have hS7 := (HCE.out _ _ _ _ _ _ _ (HTD.out.alloc (.cells #[.int .i64 (-1)] 3))).2.2
         refine hK.out _ _ (fun _ => hS7) ?_
         clear hK K
         try simp only [Act.put, List.getElem_toArray, List.getElem_cons_succ, List.getElem_cons_zero, List.setIfInBounds_toArray, List.set_cons_zero, List.set_cons_succ]
         refine Till.ready (rs := [3]) (by kernel_rfl) (by simp) ?_
         refine Ups.cons rfl (fun K hK => ?_) Ups.nil
         go_simp
         have hS3 := (HCE.out _ _ _ _ _ _ _ ((HTD.out.alloc (.cells #[.int .i64 (-1)] 3)).alloc (.cells #[.int .i64 (kb : Int)] 3))).2.2
         refine hK.out _ _ (fun _ => hS3) ?_
         clear hK K
         try simp only [Act.put, List.getElem_toArray, List.getElem_cons_succ, List.getElem_cons_zero, List.setIfInBounds_toArray, List.set_cons_zero, List.set_cons_succ]
         refine Till.ready (rs := [4]) (by kernel_rfl) (by simp) ?_
         refine Ups.cons rfl (fun K hK => ?_) Ups.nil
         refine step_append_lies _ (by rfl) _ _ _ (by rfl) (wo.heap.size + 1) 3 i3 (.int .i64 0) 1 8 undI3 h3a h3b h3c h3d rfl (by omega) (.slice pa (chP G i).length pc) (chP G i).length (intsC (chP G i)) (by rfl) (((HTD.out.alloc (.cells #[.int .i64 (-1)] 3)).alloc (.cells #[.int .i64 (kb : Int)] 3)).oP) ⟨wz.heap.size + 1, 0, none⟩ 1 1 [.int .i64 (kb : Int)] (by rfl) (by rfl) (World.news_of_block (cs := #[.int .i64 (kb : Int)]) (t := 3) (fr := (0, 0)) (tmp_next wz.drew _ _)) (one_int _ _) (by omega) (by unfold maxLen; omega) (by omega) (((HTD.out.alloc (.cells #[.int .i64 (-1)] 3)).alloc (.cells #[.int .i64 (kb : Int)] 3)).lt) _ rfl ?_
         intro gP cP wP ownP groP hatP hltP
         have HTP : Hid (Two (fun i => wo.heap.size ≤ i) wo.heap.size wo 0 (o : Int) (.slice pa (chP G i).length pc) (.slice ea (chE i).length ec) (.slice (some ⟨gP, 0, none⟩) ((chP G i).length + 1) cP) (.slice ea (chE i).length ec) ((chP G i) ++ [(kb : Int)]) (chE i) wP) := ((HTD.out.alloc (.cells #[.int .i64 (-1)] 3)).alloc (.cells #[.int .i64 (kb : Int)] 3)).pushP ownP groP hatP
         have HTM : Hid (wP.heap[wz.heap.size]? = some (.cells #[.int .i64 (-1)] 3 (0, 0))) := tmp_kept groP (tmp_old wz.drew _ _) (fun e => by have h9 := (HTD.out.oP.lt _ e).2; have h8 : wz.drew.heap.size = wz.heap.size := rfl; omega)
         have hS4 := (HCE.out _ _ _ _ _ _ _ HTP.out).2.2
         refine hK.out _ _ (fun _ => hS4) ?_
         clear hK K
         try simp only [Act.put, List.getElem_toArray, List.getElem_cons_succ, List.getElem_cons_zero, List.setIfInBounds_toArray, List.set_cons_zero, List.set_cons_succ]
         refine Till.take (i := 9) (v := .pointer (some ⟨wo.heap.size, 2, none⟩)) rfl (by kernel_rfl) (by kernel_rfl) (by kernel_rfl) (fun _ _ _ h => h) (by decide) (Waits.of (by kernel_rfl)) (by kernel_rfl) (Or.inl ⟨by rfl, fun w hSw => by (obtain ⟨s2, s3⟩ := hSw; go_simp)⟩) hS4 ?_
         try simp only [Act.put, List.getElem_toArray, List.getElem_cons_succ, List.getElem_cons_zero, List.setIfInBounds_toArray, List.set_cons_zero, List.set_cons_succ]
         refine Till.ready (rs := [8]) (by kernel_rfl) (by simp) ?_
         refine Ups.cons rfl (fun K hK => ?_) Ups.nil
         refine step_append_lies _ (by rfl) _ _ _ (by rfl) (wo.heap.size + 1) 3 i3 (.int .i64 0) 1 8 undI3 h3a h3b h3c h3d rfl (by omega) (.slice ea (chE i).length ec) (chE i).length (intsC (chE i)) (by rfl) HTP.out.oE ⟨wz.heap.size, 0, none⟩ 1 1 [.int .i64 (-1)] (by rfl) (by rfl) (World.news_of_block (cs := #[.int .i64 (-1)]) (t := 3) (fr := (0, 0)) (HTM.out)) (one_int _ _) (by omega) (by unfold maxLen; omega) (by omega) HTP.out.lt _ rfl ?_
         intro gE cE wE ownE groE hatE hltE
         have HTE : Hid (Two (fun i => wo.heap.size ≤ i) wo.heap.size wo 0 (o : Int) (.slice pa (chP G i).length pc) (.slice ea (chE i).length ec) (.slice (some ⟨gP, 0, none⟩) ((chP G i).length + 1) cP) (.slice (some ⟨gE, 0, none⟩) ((chE i).length + 1) cE) ((chP G i) ++ [(kb : Int)]) ((chE i) ++ [(-1)]) wE) := HTP.out.pushE ownE groE hatE
         have hS8 := (HCE.out _ _ _ _ _ _ _ HTE.out).2.2
         refine hK.out _ _ (fun _ => hS8) ?_
         clear hK K
         try simp only [Act.put, List.getElem_toArray, List.getElem_cons_succ, List.getElem_cons_zero, List.setIfInBounds_toArray, List.set_cons_zero, List.set_cons_succ]
         clear ownE groE hatE hltE ownP groP hatP hltP
         obtain ⟨z0, z1, z2, z3⟩ := HTE.out.cells
         have fz2 := HTE.out.frozen 2
         have fz3 := HTE.out.frozen 3
         refine Till.ready (rs := [10]) (by kernel_rfl) (by simp) ?_
         refine Ups.cons rfl (fun K hK => ?_) Ups.nil
         go_simp
         refine hK.out _ _ (fun h => Bool.noConfusion (Eq.trans (Eq.symm h) (by kernel_rfl : _ = true))) ?_
         clear hK K
         try simp only [Act.put, List.getElem_toArray, List.getElem_cons_succ, List.getElem_cons_zero, List.setIfInBounds_toArray, List.set_cons_zero, List.set_cons_succ]
         refine Till.ready (rs := [11]) (by kernel_rfl) (by simp) ?_
         refine Ups.cons rfl (fun K hK => ?_) Ups.nil
         go_simp
         refine hK.out _ _ (fun h => Bool.noConfusion (Eq.trans (Eq.symm h) (by kernel_rfl : _ = true))) ?_
         clear hK K
         try simp only [Act.put, List.getElem_toArray, List.getElem_cons_succ, List.getElem_cons_zero, List.setIfInBounds_toArray, List.set_cons_zero, List.set_cons_succ]
         refine Till.ready (rs := [12]) (by kernel_rfl) (by simp) ?_
         refine Ups.cons rfl (fun K hK => ?_) Ups.nil
         go_simp
         refine hK.out _ _ (fun h => Bool.noConfusion (Eq.trans (Eq.symm h) (by kernel_rfl : _ = true))) ?_
         clear hK K
         try simp only [Act.put, List.getElem_toArray, List.getElem_cons_succ, List.getElem_cons_zero, List.setIfInBounds_toArray, List.set_cons_zero, List.set_cons_succ]
         refine Till.done (by kernel_rfl) ?_
         clear z0 z1 z2 z3 fz2 fz3
         refine NoPanic.normal ?_
         go_wp2_with fail
         go_roundw
         case rel => exact ⟨i + 1, _, _, by omega, by rw [HCM.out]; go_num, by go_num, by rw [HPS.out, HES.out]; exact HTE.out.set⟩
         case measure => simp [intOf]; omega
      --@/A
     ·--@B
      have hiN : i = N := by omega
      subst hiN
      have HBW : Hid (Bs w l b r o u9 wr) := HO.out.low HT.out.bel
      have HNX : Hid (bestK (ordS l b r) o = o → Bs w l b r (o + 1) (.int .i64 (chS G i : Int)) ((((wr.setCell ⟨w.heap.size + 1, 0, none⟩ (.int .i64 0)).setCell ⟨w.heap.size + 1, 1, none⟩ (.int .i64 (o : Int))).setCell ⟨w.heap.size + 1, 2, none⟩ (.slice pa (chP G i).length pc)).setCell ⟨w.heap.size + 1, 3, none⟩ (.slice ea (chE i).length ec))) := fun hk => by
       have h := Bs.next (pa := pa) (ea := ea) (pc := pc) (ec := ec) (X := wr) HO.out hlt (by rw [HNN.out, HGE.out]; exact HT.out) hk
       rw [HNN.out, HGE.out, HOS.out] at h
       exact h
      obtain ⟨a0, a1, a2, a3, hOB⟩ := HBW.out.box
      have hxb := hOB.bb
      have v0 : wr.cell? ⟨w.heap.size + 1, 0, none⟩ = some (a0) := by rw [cell_of_row _ _ _ _ _ _ hxb]; rfl
      have fv0 : wr.frozen? ⟨w.heap.size + 1, 0, none⟩ = false := by simp [World.frozen?, hxb]
      have v1 : wr.cell? ⟨w.heap.size + 1, 1, none⟩ = some (a1) := by rw [cell_of_row _ _ _ _ _ _ hxb]; rfl
      have fv1 : wr.frozen? ⟨w.heap.size + 1, 1, none⟩ = false := by simp [World.frozen?, hxb]
      have v2 : wr.cell? ⟨w.heap.size + 1, 2, none⟩ = some (a2) := by rw [cell_of_row _ _ _ _ _ _ hxb]; rfl
      have fv2 : wr.frozen? ⟨w.heap.size + 1, 2, none⟩ = false := by simp [World.frozen?, hxb]
      have v3 : wr.cell? ⟨w.heap.size + 1, 3, none⟩ = some (a3) := by rw [cell_of_row _ _ _ _ _ _ hxb]; rfl
      have fv3 : wr.frozen? ⟨w.heap.size + 1, 3, none⟩ = false := by simp [World.frozen?, hxb]
      clear hxb hOB
      rcases HO.out.ways with ⟨hoz, hu⟩ | ⟨m, hom, hu⟩
      ·subst hu
       have hB1 : bestK (ordS l b r) o = o := by subst hoz; rfl
       have HFI := HNX.out hB1
       clear hoz hB1 HNX
       go_wp2_with fail
       generalize hwf : World.setCell _ _ _ = wf at *
       have HFJ : Hid (Bs w l b r (min (o + 1) (q + 1)) (.int .i64 (chS G i : Int)) wf) := by rw [HMN.out]; exact HFI
       clear hwf HFI
       go_roundw
       case rel => exact ⟨o + 1, by omega, by go_num, HFJ.out⟩
       case measure => simp [intOf]; omega
      ·subst hu
       have HBE : Hid (bestK (ordS l b r) o = if ordS l b r o < ordS l b r (bestK (ordS l b r) m) then o else bestK (ordS l b r) m) := by show _ = _; rw [hom]; rfl
       have HOM : Hid (o = m + 1) := hom
       clear hom
       have hcb : ordS l b r (bestK (ordS l b r) m) ≤ 18000000000000 := by
        have hle := bestK_le (ordS l b r) m
        have h4 := HOM.out
        exact HSB.out _ (by omega)
       generalize hvv : ordS l b r (bestK (ordS l b r) m) = vb at *
       have HVB : Hid (ordS l b r (bestK (ordS l b r) m) = vb) := hvv
       by_cases hlv : chS G i < vb
       ·have hB1 : bestK (ordS l b r) o = o := by
         have e := HBE.out
         rw [HOS.out, if_pos hlv] at e
         exact e
        have HFI := HNX.out hB1
        clear hvv hB1 HNX
        go_wp2_with fail
        generalize hwf : World.setCell _ _ _ = wf at *
        have HFJ : Hid (Bs w l b r (min (o + 1) (q + 1)) (.int .i64 (chS G i : Int)) wf) := by rw [HMN.out]; exact HFI
        clear hwf HFI
        go_roundw
        case rel => exact ⟨o + 1, by omega, by go_num, HFJ.out⟩
        case measure => simp [intOf]; omega
       ·have hB1 : bestK (ordS l b r) o = bestK (ordS l b r) m := by
         have e := HBE.out
         rw [HOS.out, if_neg hlv] at e
         exact e
        have HFJ : Hid (Bs w l b r (min (o + 1) (q + 1)) (.int .i64 (vb : Int)) wr) := by
         rw [HMN.out]
         have hh := HBW.out
         rw [HOM.out] at hh hB1 ⊢
         exact hh.skip hB1
        clear hvv hB1 HNX
        go_wp2_with fail
        go_roundw
        case rel => exact ⟨o + 1, by omega, by go_num, HFJ.out⟩
        case measure => simp [intOf]; omega
      --@/B
   ·--@C
    have HM2 : Hid (min (o + 1) (q + 1) = min o (q + 1)) := by show _ = _; omega
    have KSo := fun wx => KS.out o false wx (HSN.out o hlt hoq)
    have HO2 : Hid (Bs w l b r (min (o + 1) (q + 1)) u9 (wo.alloc (.cells #[.int .i64 0, .int .i64 (o : Int), .slice none 0 0, .slice none 0 0] 25))) := by rw [HM2.out]; exact HO.out.low ((Below.refl _ _).alloc (Nat.le_refl _) _)
    have HX2 : Hid ((wo.alloc (.cells #[.int .i64 0, .int .i64 (o : Int), .slice none 0 0, .slice none 0 0] 25)).heap[wo.heap.size]? = some (.cells #[.int .i64 0, .int .i64 (o : Int), .slice none 0 0, .slice none 0 0] 25 (0, 0))) := heap_alloc_new _ _
    go_wp2_with fail
    generalize hw2 : World.alloc _ _ = w2 at *
    clear hw2
    refine (KSo w2).mono ?_
    rintro e w3 ⟨rfl, hb3⟩
    have HO3 : Hid (Bs w l b r (min (o + 1) (q + 1)) u9 w3) := HO2.out.low hb3
    clear hb3 KSo
    go_wp2_with fail
    go_roundw
    case rel => exact ⟨o + 1, by omega, by go_num, HO3.out⟩
    case measure => simp [intOf]; omega
    --@/C
  ·--@D
   have hmq : min o (q + 1) = q + 1 := by omega
   rw [hmq] at HO
   obtain ⟨hu, pa, pc, ea, ec, hOB, hRC, hpb, heb⟩ := HO.out
   have HOB2 : Hid (OB w (riceC (bestRc l b r (bestK (ordS l b r) q)) pa pc ea ec) wo) := hOB
   have HRC2 : Hid (RcAt wo (bestRc l b r (bestK (ordS l b r) q)) pa ea) := hRC
   have hPB : Hid (∀ g, blockOf pa = some g → w.heap.size + 1 < g) := hpb
   have hEB : Hid (∀ g, blockOf ea = some g → w.heap.size + 1 < g) := heb
   subst hu
   have hxr := hOB.rb
   have hxb := hOB.bb
   unfold riceC at hxb
   have u0 : wo.cell? ⟨w.heap.size, 0, none⟩ = some (.int .i64 0) := by rw [cell_of_row _ _ _ _ _ _ hxr]; rfl
   have fu0 : wo.frozen? ⟨w.heap.size, 0, none⟩ = false := by simp [World.frozen?, hxr]
   have u1 : wo.cell? ⟨w.heap.size, 1, none⟩ = some (.int .i64 0) := by rw [cell_of_row _ _ _ _ _ _ hxr]; rfl
   have fu1 : wo.frozen? ⟨w.heap.size, 1, none⟩ = false := by simp [World.frozen?, hxr]
   have u2 : wo.cell? ⟨w.heap.size, 2, none⟩ = some (.slice none 0 0) := by rw [cell_of_row _ _ _ _ _ _ hxr]; rfl
   have fu2 : wo.frozen? ⟨w.heap.size, 2, none⟩ = false := by simp [World.frozen?, hxr]
   have u3 : wo.cell? ⟨w.heap.size, 3, none⟩ = some (.slice none 0 0) := by rw [cell_of_row _ _ _ _ _ _ hxr]; rfl
   have fu3 : wo.frozen? ⟨w.heap.size, 3, none⟩ = false := by simp [World.frozen?, hxr]
   have v0 : wo.cell? ⟨w.heap.size + 1, 0, none⟩ = some (.int .i64 (bestRc l b r (bestK (ordS l b r) q)).m) := by rw [cell_of_row _ _ _ _ _ _ hxb]; rfl
   have fv0 : wo.frozen? ⟨w.heap.size + 1, 0, none⟩ = false := by simp [World.frozen?, hxb]
   have v1 : wo.cell? ⟨w.heap.size + 1, 1, none⟩ = some (.int .i64 (bestRc l b r (bestK (ordS l b r) q)).o) := by rw [cell_of_row _ _ _ _ _ _ hxb]; rfl
   have fv1 : wo.frozen? ⟨w.heap.size + 1, 1, none⟩ = false := by simp [World.frozen?, hxb]
   have v2 : wo.cell? ⟨w.heap.size + 1, 2, none⟩ = some (.slice pa (bestRc l b r (bestK (ordS l b r) q)).P.length pc) := by rw [cell_of_row _ _ _ _ _ _ hxb]; rfl
   have fv2 : wo.frozen? ⟨w.heap.size + 1, 2, none⟩ = false := by simp [World.frozen?, hxb]
   have v3 : wo.cell? ⟨w.heap.size + 1, 3, none⟩ = some (.slice ea (bestRc l b r (bestK (ordS l b r) q)).E.length ec) := by rw [cell_of_row _ _ _ _ _ _ hxb]; rfl
   have fv3 : wo.frozen? ⟨w.heap.size + 1, 3, none⟩ = false := by simp [World.frozen?, hxb]
   clear hxr hxb hOB hRC hpb heb hmq
   generalize hvv : ordS l b r (bestK (ordS l b r) q) = vb at *
   generalize hcc : bestRc l b r (bestK (ordS l b r) q) = c at *
   have HVV : Hid (ordS l b r (bestK (ordS l b r) q) = vb) := hvv
   have HCC : Hid (bestRc l b r (bestK (ordS l b r) q) = c) := hcc
   clear hvv hcc
   go_wp2_with fail
   generalize hwf : World.setCell _ _ _ = wf
   have hrow : wf.heap[w.heap.size]? = some (.cells (riceC c pa pc ea ec) 25 (0, 0)) := by rw [← hwf]; exact set4_a _ _ _ _ _ HOB2.out.rb
   have hst : Stays (only w.heap.size) wo wf := by rw [← hwf]; exact set4_o _ _ _ _ _
   have hbel : Below w.heap.size w wf := by rw [← hwf]; exact (((HOB2.out.below.setCell (Nat.le_refl _) _).setCell (Nat.le_refl _) _).setCell (Nat.le_refl _) _).setCell (Nat.le_refl _) _
   have hrc : RcAt wf c pa ea := ⟨HRC2.out.P.stays hst (fun g hg e => by have := hPB.out g hg; unfold only at e; omega), HRC2.out.E.stays hst (fun g hg e => by have := hEB.out g hg; unfold only at e; omega), HRC2.out.m1, HRC2.out.m2, HRC2.out.o1, HRC2.out.o2⟩
   refine bodyPost_ret (v := .tuple #[.agg (riceC c pa pc ea ec), .int .i64 (vb : Int)]) ?_ rfl ⟨pa, pc, ea, ec, by rw [HCC.out, HVV.out, riceV], by rw [HCC.out]; exact hrc, hbel, fun g hg => by have := hPB.out g hg; omega, fun g hg => by have := hEB.out g hg; omega⟩
   rw [results_two rfl]
   have hld := run_loadVar_row (P := Tryz.prog) (wf) (w.heap.size) 25 25 (riceC c pa pc ea ec) (0, 0) _ hrow Tryz.underlying25 rfl info_Rice
   simp [asAddr, Result.andThen, hld]
   --@/D
end Go.Proofs.YthgpleelpeacjaaGreatDoor
