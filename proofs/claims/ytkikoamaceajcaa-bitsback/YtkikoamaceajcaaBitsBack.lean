/-
  For every list of deeds the law BitsBack answers true: what the program's writer wrote without an error its reader reads as it was, one behind the other, and fewer than 8 bits are left. No condition is laid on the list (the law itself looks at the first sixty deeds, and passes over unary codes of 4000 to 2^24 bits 0).
-/
import Derived.Test.YtkikoamaceajcaaDone
import Derived.WalkKit
import Derived.ProofKit
import Derived.OpenShut
import Derived.ShutString
import Derived.ChangeOld
import Derived.Below
namespace Go.Proofs.Ytkikoamaceajcaa.bitsBack
open Go.ChangeShapes Go.WideShapes Go.ChangeAt Go.RowKit
set_option linter.unusedSimpArgs false
set_option linter.unusedVariables false

theorem own : ownKnob Try.prog.godebug = none := by kernel_rfl
theorem laidOut : laidOutB Try.prog = true := by kernel_rfl

theorem four_new (w : World) (a b c d : Value) (t : TypeId) : ∀ (j : Nat) (u : Value), [a, b, c, d][j]? = some u → (w.alloc (.cells #[a, b, c, d] t)).cell? ((Addr.mk w.heap.size 0 none).add j) = some u := by
  intro j u hj
  have e : (Addr.mk w.heap.size 0 none).add j = ⟨w.heap.size, j, none⟩ := by unfold Addr.add; split <;> simp_all
  rw [e]
  simp only [World.cell?, heap_alloc_new]
  simpa using hj

theorem four_one (a b c d : Int) : ∀ u ∈ [Value.int .i64 a, .int .i64 b, .int .i64 c, .int .u64 d], u.oneCell' = true := by
  intro u hu
  simp at hu
  rcases hu with rfl | rfl | rfl | rfl <;> rfl

theorem good0 (W N U : Int) (h : putE U W = 0) (u1 : 0 ≤ U) (u2 : U ≤ 18446744073709551615) : Good (mkd 0 W N U) := ⟨h, u1, u2⟩
theorem good1 (W N U : Int) (h : sigE N W = 0) (u1 : 0 ≤ U) (u2 : U ≤ 18446744073709551615) : Good (mkd 1 W N U) := ⟨h, u1, u2⟩
theorem good2 (W N U : Int) (h : unrE N = 0) (u1 : 0 ≤ U) (u2 : U ≤ 18446744073709551615) : Good (mkd 2 W N U) := ⟨h, u1, u2⟩
theorem good3 (W N U : Int) (h : rcwE N W = 0) (u1 : 0 ≤ U) (u2 : U ≤ 18446744073709551615) : Good (mkd 3 W N U) := ⟨h, u1, u2⟩
theorem good4 (K W N U : Int) (k0 : K ≠ 0) (k1 : K ≠ 1) (k2 : K ≠ 2) (k3 : K ≠ 3) (u1 : 0 ≤ U) (u2 : U ≤ 18446744073709551615) : Good (mkd K W N U) :=
  ⟨by show dE K W N U = 0; unfold dE; rw [if_neg k0, if_neg k1, if_neg k2, if_neg k3], u1, u2⟩
theorem dB4 (B : List Nat) (K W N U : Int) (k0 : K ≠ 0) (k1 : K ≠ 1) (k2 : K ≠ 2) (k3 : K ≠ 3) : dB B K W N U = aliB B := by unfold dB; rw [if_neg k0, if_neg k1, if_neg k2, if_neg k3]

theorem good_snoc {L : List Deed4} {d : Deed4} (h : ∀ x ∈ L, Good x) (hd : Good d) : ∀ x ∈ L ++ [d], Good x := by
  intro x hx
  rcases List.mem_append.1 hx with h1 | h1
  · exact h x h1
  · simp at h1; subst h1; exact hd

set_option maxRecDepth 20000 in
set_option maxHeartbeats 6400000 in
theorem walk (ao0 : Option Addr) (len cap b off : Nat) (hlen : len ≤ 9223372036854775807) (K W N U : Nat → Int) (w : World) (hd : Deeds w ao0 len b off K W N U) :
    Calls Try.prog 5 #[.slice ao0 len cap] w fun e w' => e = .returned (.bool true) ∧ Below w.heap.size w w' := by
  obtain ⟨i0, hi0, hz0, hz1, hz2⟩ := info_parts Try.info32
  go_enter Try.func5, Try.ntmps5
  go_wp2_with fail
  refine (new_spec w).mono ?_
  rintro e w1 ⟨rfl, hW1, hw1⟩
  have hB1 : Below w.heap.size w w1 := by rw [hw1]; exact (Below.refl _ _).alloc (Nat.le_refl _) _
  clear hw1
  obtain ⟨p, hp⟩ : ∃ p, p = w.heap.size := ⟨_, rfl⟩
  obtain ⟨q0, hq0⟩ : ∃ q0, q0 = w.heap.size := ⟨_, rfl⟩
  rw [← hp] at hW1 ⊢
  have hK1 : Bk q0 w w1 p none none 0 (enc []) [] := ⟨hW1, World.ownsRow_nil _ _ _ _, by omega, fun b hb => (by cases hb), fun b hb => (by cases hb), by rw [hq0]; exact hB1⟩
  have HP : Hid _ := hp
  have HQ0 : Hid _ := hq0
  clear hB1 hW1 hp hq0
  go_wp2_with fail
  go_loopw [4, 5] (fun v t wr => ∃ (i : Nat) (ao lo : Option Addr) (lcap : Nat) (L : List Deed4), i ≤ len ∧ i ≤ 60 ∧ L.length ≤ i ∧ t = .int .i64 (i : Int) ∧ v = .slice lo L.length lcap ∧ (∀ x ∈ L, Good x) ∧ Bk q0 w wr p ao lo lcap (enc L) L) (fun _ t _ => 60 - (intOf t).toNat)
  case atStart => exact ⟨0, none, none, 0, [], by omega, by omega, by simp, rfl, rfl, fun x hx => (by cases hx), hK1⟩
  case round =>
    obtain ⟨i, ao, lo, lcap, L, hi, hi60, hL, rfl, rfl, hG, hK⟩ := hrel
    clear hK1
    have hle := enc_len L
    have hle2 : (enc L).length ≤ 1020000000 := by omega
    have h01 := enc_01 L
    clear hle
    by_cases hlt : (i : Int) < (len : Int)
    · by_cases h60 : (i : Int) < 60
      · obtain ⟨rfl, hbq0⟩ := hd.addr (by omega)
        have hbq : b < q0 := by have := HQ0.out; omega
        have d0 : wr.cell? ⟨b, off + i * 4, none⟩ = some (.int .i64 (K i)) := (hK.below.cell (p := ⟨b, off + i * 4, none⟩) hbq).trans (hd.ck i (by omega))
        have d1 : wr.cell? ⟨b, off + i * 4 + 1, none⟩ = some (.int .i64 (W i)) := (hK.below.cell (p := ⟨b, off + i * 4 + 1, none⟩) hbq).trans (hd.cw i (by omega))
        have d2 : wr.cell? ⟨b, off + i * 4 + 2, none⟩ = some (.int .i64 (N i)) := (hK.below.cell (p := ⟨b, off + i * 4 + 2, none⟩) hbq).trans (hd.cn i (by omega))
        have d3 : wr.cell? ⟨b, off + i * 4 + 3, none⟩ = some (.int .u64 (U i)) := (hK.below.cell (p := ⟨b, off + i * 4 + 3, none⟩) hbq).trans (hd.cu i (by omega))
        have bn := hd.nb i (by omega)
        have bu := hd.ub i (by omega)
        generalize K i = kk at d0
        generalize W i = ww at d1
        generalize N i = nn at d2 bn
        generalize U i = uu at d3 bu
        have HD : Hid _ := hd
        clear hd hbq0
        obtain ⟨c, hc⟩ : ∃ c, c = wr.heap.size := ⟨_, rfl⟩
        obtain ⟨w2, hw2⟩ : ∃ w2, w2 = wr.alloc (.cells #[.int .i64 kk, .int .i64 ww, .int .i64 nn, .int .u64 uu] 32) := ⟨_, rfl⟩
        have hB2 : Below wr.heap.size wr w2 := by rw [hw2]; exact (Below.refl _ _).alloc (Nat.le_refl _) _
        have hcb : w2.heap[c]? = some (.cells #[.int .i64 kk, .int .i64 ww, .int .i64 nn, .int .u64 uu] 32 (0, 0)) := by rw [hw2, hc]; exact heap_alloc_new _ _
        have hcp : c ≠ p := by have := hK.wr.lt; omega
        have hca : blockOf ao ≠ some c := fun e => by have := hK.wr.blocks c e; omega
        have hK2 := hK.later hB2
        clear hK hB2
        go_wp2_with fail
        rw [← hc, ← hw2]
        clear hw2 hc
        refine (light_spec kk ww nn uu bn.1 bn.2 w2).mono ?_
        rintro e w3 ⟨rfl, hB3⟩
        have hK3 := hK2.later hB3
        have hcb3 : w3.heap[c]? = some (.cells #[.int .i64 kk, .int .i64 ww, .int .i64 nn, .int .u64 uu] 32 (0, 0)) := (hB3.block c (lt_of_block hcb)).trans hcb
        have hcl3 : c < w3.heap.size := lt_of_block hcb3
        clear hK2 hB3 hcb d0 d1 d2 d3
        have d0 : w3.cell? ⟨c, 0, none⟩ = some (.int .i64 kk) := by simp [World.cell?, hcb3]
        have d1 : w3.cell? ⟨c, 1, none⟩ = some (.int .i64 ww) := by simp [World.cell?, hcb3]
        have d2 : w3.cell? ⟨c, 2, none⟩ = some (.int .i64 nn) := by simp [World.cell?, hcb3]
        have d3 : w3.cell? ⟨c, 3, none⟩ = some (.int .u64 uu) := by simp [World.cell?, hcb3]
        by_cases hl : lightB kk ww nn = true
        · rw [hl]
          clear hl
          by_cases k0 : kk = 0
          · subst k0
            go_wp2_with fail
            refine (wput_all w3 ao (enc L) p uu ww bu.1 bu.2 h01 (by omega) hK3.wr).mono ?_
            rintro e w4 ⟨rfl, ao4, g1, g2, g3⟩
            have hb4 : w4.heap[c]? = some (.cells #[.int .i64 0, .int .i64 ww, .int .i64 nn, .int .u64 uu] 32 (0, 0)) := (g2.block c hcl3 (fun hf => by rcases hf with hf | hf; exact hcp hf; exact hca hf)).trans hcb3
            have x0 : w4.cell? ⟨c, 0, none⟩ = some (.int .i64 0) := by simp [World.cell?, hb4]
            have x1 : w4.cell? ⟨c, 1, none⟩ = some (.int .i64 ww) := by simp [World.cell?, hb4]
            have x2 : w4.cell? ⟨c, 2, none⟩ = some (.int .i64 nn) := by simp [World.cell?, hb4]
            have x3 : w4.cell? ⟨c, 3, none⟩ = some (.int .u64 uu) := by simp [World.cell?, hb4]
            have hK4 := hK3.write g1 g2 g3
            clear g1 g2 g3 hK3 hb4 d0 d1 d2 d3
            by_cases hE : putE uu ww = 0
            · have HE : Hid (putE uu ww = 0) := hE
              rw [hE]
              clear hE
              go_wp2_with (at_builtin; refine wpList_append_sized _ rfl _ _ 22 rfl 32 i0 (.agg #[.int .i64 0, .int .i64 0, .int .i64 0, .int .u64 0]) 4 32 Try.underlying22 hi0 hz0 hz1 hz2 rfl (by decide) lo lcap L.length _ rfl (owns_alloc hK4.own _) ⟨w4.heap.size, 0, none⟩ 1 1 [.int .i64 0, .int .i64 ww, .int .i64 nn, .int .u64 uu] rfl rfl (four_new _ _ _ _ _ _) (four_one _ _ _ _) ?cc ?cd ?ce)
              case cc => unfold maxLen; omega
              case cd => omega
              case ce =>
                intro lo5 lcap5 w5 hown5 hgr5 hmv5
                have hK5 : Bk q0 w w5 p ao4 lo5 lcap5 (enc (L ++ [(mkd 0 ww nn uu)])) (L ++ [(mkd 0 ww nn uu)]) := by
                  rw [enc_snoc]
                  have h1 : Bk q0 w (w4.alloc (.cells #[.int .i64 0, .int .i64 ww, .int .i64 nn, .int .u64 uu] 32)) p ao4 lo lcap (encStep (enc L) (mkd 0 ww nn uu)) L := (show Bk q0 w w4 p ao4 lo lcap (encStep (enc L) (mkd 0 ww nn uu)) L from hK4).later ((Below.refl _ _).alloc (Nat.le_refl _) _)
                  refine h1.push hgr5 (by simpa using hmv5) (L.length + 1) (by simp) ?_
                  rw [dcells_append]
                  exact hown5
                have hG5 := good_snoc hG (good0 ww nn uu HE.out bu.1 bu.2)
                clear hown5 hgr5 hmv5 hK4 x0 x1 x2 x3
                go_wp2
                go_roundw
                case rel => exact ⟨i + 1, ao4, lo5, lcap5, L ++ [(mkd 0 ww nn uu)], by omega, by omega, by simp; omega, by go_num, by simp, hG5, hK5⟩
                case measure => simp [intOf]; omega
            
            · have hE' : (putE uu ww == 0) = false := by simpa using hE
              rw [put_err uu ww hE, List.append_nil] at hK4
              clear hE x0 x1 x2 x3
              go_wp2
              go_roundw
              case rel => exact ⟨i + 1, ao4, lo, lcap, L, by omega, by omega, by omega, by go_num, rfl, hG, hK4⟩
              case measure => simp [intOf]; omega
          · by_cases k1 : kk = 1
            · subst k1
              go_wp2_with fail
              refine (wsig_all w3 ao (enc L) p nn ww h01 (by omega) hK3.wr).mono ?_
              rintro e w4 ⟨rfl, ao4, g1, g2, g3⟩
              have hb4 : w4.heap[c]? = some (.cells #[.int .i64 1, .int .i64 ww, .int .i64 nn, .int .u64 uu] 32 (0, 0)) := (g2.block c hcl3 (fun hf => by rcases hf with hf | hf; exact hcp hf; exact hca hf)).trans hcb3
              have x0 : w4.cell? ⟨c, 0, none⟩ = some (.int .i64 1) := by simp [World.cell?, hb4]
              have x1 : w4.cell? ⟨c, 1, none⟩ = some (.int .i64 ww) := by simp [World.cell?, hb4]
              have x2 : w4.cell? ⟨c, 2, none⟩ = some (.int .i64 nn) := by simp [World.cell?, hb4]
              have x3 : w4.cell? ⟨c, 3, none⟩ = some (.int .u64 uu) := by simp [World.cell?, hb4]
              have hK4 := hK3.write g1 g2 g3
              clear g1 g2 g3 hK3 hb4 d0 d1 d2 d3
              by_cases hE : sigE nn ww = 0
              · have HE : Hid (sigE nn ww = 0) := hE
                rw [hE]
                clear hE
                go_wp2_with (at_builtin; refine wpList_append_sized _ rfl _ _ 22 rfl 32 i0 (.agg #[.int .i64 0, .int .i64 0, .int .i64 0, .int .u64 0]) 4 32 Try.underlying22 hi0 hz0 hz1 hz2 rfl (by decide) lo lcap L.length _ rfl (owns_alloc hK4.own _) ⟨w4.heap.size, 0, none⟩ 1 1 [.int .i64 1, .int .i64 ww, .int .i64 nn, .int .u64 uu] rfl rfl (four_new _ _ _ _ _ _) (four_one _ _ _ _) ?cc ?cd ?ce)
                case cc => unfold maxLen; omega
                case cd => omega
                case ce =>
                  intro lo5 lcap5 w5 hown5 hgr5 hmv5
                  have hK5 : Bk q0 w w5 p ao4 lo5 lcap5 (enc (L ++ [(mkd 1 ww nn uu)])) (L ++ [(mkd 1 ww nn uu)]) := by
                    rw [enc_snoc]
                    have h1 : Bk q0 w (w4.alloc (.cells #[.int .i64 1, .int .i64 ww, .int .i64 nn, .int .u64 uu] 32)) p ao4 lo lcap (encStep (enc L) (mkd 1 ww nn uu)) L := (show Bk q0 w w4 p ao4 lo lcap (encStep (enc L) (mkd 1 ww nn uu)) L from hK4).later ((Below.refl _ _).alloc (Nat.le_refl _) _)
                    refine h1.push hgr5 (by simpa using hmv5) (L.length + 1) (by simp) ?_
                    rw [dcells_append]
                    exact hown5
                  have hG5 := good_snoc hG (good1 ww nn uu HE.out bu.1 bu.2)
                  clear hown5 hgr5 hmv5 hK4 x0 x1 x2 x3
                  go_wp2
                  go_roundw
                  case rel => exact ⟨i + 1, ao4, lo5, lcap5, L ++ [(mkd 1 ww nn uu)], by omega, by omega, by simp; omega, by go_num, by simp, hG5, hK5⟩
                  case measure => simp [intOf]; omega
              
              · have hE' : (sigE nn ww == 0) = false := by simpa using hE
                rw [sig_err nn ww hE, List.append_nil] at hK4
                clear hE x0 x1 x2 x3
                go_wp2
                go_roundw
                case rel => exact ⟨i + 1, ao4, lo, lcap, L, by omega, by omega, by omega, by go_num, rfl, hG, hK4⟩
                case measure => simp [intOf]; omega
            · by_cases k2 : kk = 2
              · subst k2
                go_wp2_with fail
                refine (wunr_all w3 ao (enc L) p nn h01 (by omega) hK3.wr).mono ?_
                rintro e w4 ⟨rfl, ao4, g1, g2, g3⟩
                have hb4 : w4.heap[c]? = some (.cells #[.int .i64 2, .int .i64 ww, .int .i64 nn, .int .u64 uu] 32 (0, 0)) := (g2.block c hcl3 (fun hf => by rcases hf with hf | hf; exact hcp hf; exact hca hf)).trans hcb3
                have x0 : w4.cell? ⟨c, 0, none⟩ = some (.int .i64 2) := by simp [World.cell?, hb4]
                have x1 : w4.cell? ⟨c, 1, none⟩ = some (.int .i64 ww) := by simp [World.cell?, hb4]
                have x2 : w4.cell? ⟨c, 2, none⟩ = some (.int .i64 nn) := by simp [World.cell?, hb4]
                have x3 : w4.cell? ⟨c, 3, none⟩ = some (.int .u64 uu) := by simp [World.cell?, hb4]
                have hK4 := hK3.write g1 g2 g3
                clear g1 g2 g3 hK3 hb4 d0 d1 d2 d3
                by_cases hE : unrE nn = 0
                · have HE : Hid (unrE nn = 0) := hE
                  rw [hE]
                  clear hE
                  go_wp2_with (at_builtin; refine wpList_append_sized _ rfl _ _ 22 rfl 32 i0 (.agg #[.int .i64 0, .int .i64 0, .int .i64 0, .int .u64 0]) 4 32 Try.underlying22 hi0 hz0 hz1 hz2 rfl (by decide) lo lcap L.length _ rfl (owns_alloc hK4.own _) ⟨w4.heap.size, 0, none⟩ 1 1 [.int .i64 2, .int .i64 ww, .int .i64 nn, .int .u64 uu] rfl rfl (four_new _ _ _ _ _ _) (four_one _ _ _ _) ?cc ?cd ?ce)
                  case cc => unfold maxLen; omega
                  case cd => omega
                  case ce =>
                    intro lo5 lcap5 w5 hown5 hgr5 hmv5
                    have hK5 : Bk q0 w w5 p ao4 lo5 lcap5 (enc (L ++ [(mkd 2 ww nn uu)])) (L ++ [(mkd 2 ww nn uu)]) := by
                      rw [enc_snoc]
                      have h1 : Bk q0 w (w4.alloc (.cells #[.int .i64 2, .int .i64 ww, .int .i64 nn, .int .u64 uu] 32)) p ao4 lo lcap (encStep (enc L) (mkd 2 ww nn uu)) L := (show Bk q0 w w4 p ao4 lo lcap (encStep (enc L) (mkd 2 ww nn uu)) L from hK4).later ((Below.refl _ _).alloc (Nat.le_refl _) _)
                      refine h1.push hgr5 (by simpa using hmv5) (L.length + 1) (by simp) ?_
                      rw [dcells_append]
                      exact hown5
                    have hG5 := good_snoc hG (good2 ww nn uu HE.out bu.1 bu.2)
                    clear hown5 hgr5 hmv5 hK4 x0 x1 x2 x3
                    go_wp2
                    go_roundw
                    case rel => exact ⟨i + 1, ao4, lo5, lcap5, L ++ [(mkd 2 ww nn uu)], by omega, by omega, by simp; omega, by go_num, by simp, hG5, hK5⟩
                    case measure => simp [intOf]; omega
                
                · have hE' : (unrE nn == 0) = false := by simpa using hE
                  rw [unr_err nn hE, List.append_nil] at hK4
                  clear hE x0 x1 x2 x3
                  go_wp2
                  go_roundw
                  case rel => exact ⟨i + 1, ao4, lo, lcap, L, by omega, by omega, by omega, by go_num, rfl, hG, hK4⟩
                  case measure => simp [intOf]; omega
              · by_cases k3 : kk = 3
                · subst k3
                  go_wp2_with fail
                  refine (wric_all w3 ao (enc L) p nn ww bn.1 bn.2 h01 (by omega) hK3.wr).mono ?_
                  rintro e w4 ⟨rfl, ao4, g1, g2, g3⟩
                  have hb4 : w4.heap[c]? = some (.cells #[.int .i64 3, .int .i64 ww, .int .i64 nn, .int .u64 uu] 32 (0, 0)) := (g2.block c hcl3 (fun hf => by rcases hf with hf | hf; exact hcp hf; exact hca hf)).trans hcb3
                  have x0 : w4.cell? ⟨c, 0, none⟩ = some (.int .i64 3) := by simp [World.cell?, hb4]
                  have x1 : w4.cell? ⟨c, 1, none⟩ = some (.int .i64 ww) := by simp [World.cell?, hb4]
                  have x2 : w4.cell? ⟨c, 2, none⟩ = some (.int .i64 nn) := by simp [World.cell?, hb4]
                  have x3 : w4.cell? ⟨c, 3, none⟩ = some (.int .u64 uu) := by simp [World.cell?, hb4]
                  have hK4 := hK3.write g1 g2 g3
                  clear g1 g2 g3 hK3 hb4 d0 d1 d2 d3
                  by_cases hE : rcwE nn ww = 0
                  · have HE : Hid (rcwE nn ww = 0) := hE
                    rw [hE]
                    clear hE
                    go_wp2_with (at_builtin; refine wpList_append_sized _ rfl _ _ 22 rfl 32 i0 (.agg #[.int .i64 0, .int .i64 0, .int .i64 0, .int .u64 0]) 4 32 Try.underlying22 hi0 hz0 hz1 hz2 rfl (by decide) lo lcap L.length _ rfl (owns_alloc hK4.own _) ⟨w4.heap.size, 0, none⟩ 1 1 [.int .i64 3, .int .i64 ww, .int .i64 nn, .int .u64 uu] rfl rfl (four_new _ _ _ _ _ _) (four_one _ _ _ _) ?cc ?cd ?ce)
                    case cc => unfold maxLen; omega
                    case cd => omega
                    case ce =>
                      intro lo5 lcap5 w5 hown5 hgr5 hmv5
                      have hK5 : Bk q0 w w5 p ao4 lo5 lcap5 (enc (L ++ [(mkd 3 ww nn uu)])) (L ++ [(mkd 3 ww nn uu)]) := by
                        rw [enc_snoc]
                        have h1 : Bk q0 w (w4.alloc (.cells #[.int .i64 3, .int .i64 ww, .int .i64 nn, .int .u64 uu] 32)) p ao4 lo lcap (encStep (enc L) (mkd 3 ww nn uu)) L := (show Bk q0 w w4 p ao4 lo lcap (encStep (enc L) (mkd 3 ww nn uu)) L from hK4).later ((Below.refl _ _).alloc (Nat.le_refl _) _)
                        refine h1.push hgr5 (by simpa using hmv5) (L.length + 1) (by simp) ?_
                        rw [dcells_append]
                        exact hown5
                      have hG5 := good_snoc hG (good3 ww nn uu HE.out bu.1 bu.2)
                      clear hown5 hgr5 hmv5 hK4 x0 x1 x2 x3
                      go_wp2
                      go_roundw
                      case rel => exact ⟨i + 1, ao4, lo5, lcap5, L ++ [(mkd 3 ww nn uu)], by omega, by omega, by simp; omega, by go_num, by simp, hG5, hK5⟩
                      case measure => simp [intOf]; omega
                  
                  · have hE' : (rcwE nn ww == 0) = false := by simpa using hE
                    rw [ric_err nn ww hE, List.append_nil] at hK4
                    clear hE x0 x1 x2 x3
                    go_wp2
                    go_roundw
                    case rel => exact ⟨i + 1, ao4, lo, lcap, L, by omega, by omega, by omega, by go_num, rfl, hG, hK4⟩
                    case measure => simp [intOf]; omega
                · have k0' : (kk == 0) = false := by simpa using k0
                  have k1' : (kk == 1) = false := by simpa using k1
                  have k2' : (kk == 2) = false := by simpa using k2
                  have k3' : (kk == 3) = false := by simpa using k3
                  go_wp2_with fail
                  refine (align_spec p w3 ao (enc L) (by omega) hK3.wr).mono ?_
                  rintro e w4 ⟨rfl, g1, g2⟩
                  obtain ⟨ao4, hao4⟩ : ∃ ao4, ao4 = ao := ⟨_, rfl⟩
                  have hb4 : w4.heap[c]? = some (.cells #[.int .i64 kk, .int .i64 ww, .int .i64 nn, .int .u64 uu] 32 (0, 0)) := (g2.block c hcl3 (fun hf => by rcases hf with hf | hf; exact hcp hf; exact hca hf)).trans hcb3
                  have x0 : w4.cell? ⟨c, 0, none⟩ = some (.int .i64 kk) := by simp [World.cell?, hb4]
                  have x1 : w4.cell? ⟨c, 1, none⟩ = some (.int .i64 ww) := by simp [World.cell?, hb4]
                  have x2 : w4.cell? ⟨c, 2, none⟩ = some (.int .i64 nn) := by simp [World.cell?, hb4]
                  have x3 : w4.cell? ⟨c, 3, none⟩ = some (.int .u64 uu) := by simp [World.cell?, hb4]
                  have hK4 := hK3.write g1 g2 (Moved.refl _ _)
                  rw [← hao4] at hK4
                  clear g1 g2 hK3 hb4 d0 d1 d2 d3 hao4
                  go_wp2_with (at_builtin; refine wpList_append_sized _ rfl _ _ 22 rfl 32 i0 (.agg #[.int .i64 0, .int .i64 0, .int .i64 0, .int .u64 0]) 4 32 Try.underlying22 hi0 hz0 hz1 hz2 rfl (by decide) lo lcap L.length _ rfl (owns_alloc hK4.own _) ⟨w4.heap.size, 0, none⟩ 1 1 [.int .i64 kk, .int .i64 ww, .int .i64 nn, .int .u64 uu] rfl rfl (four_new _ _ _ _ _ _) (four_one _ _ _ _) ?cc ?cd ?ce)
                  case cc => unfold maxLen; omega
                  case cd => omega
                  case ce =>
                    intro lo5 lcap5 w5 hown5 hgr5 hmv5
                    have hK5 : Bk q0 w w5 p ao4 lo5 lcap5 (enc (L ++ [(mkd kk ww nn uu)])) (L ++ [(mkd kk ww nn uu)]) := by
                      rw [enc_snoc]
                      have h1 : Bk q0 w (w4.alloc (.cells #[.int .i64 kk, .int .i64 ww, .int .i64 nn, .int .u64 uu] 32)) p ao4 lo lcap (encStep (enc L) (mkd kk ww nn uu)) L := (show Bk q0 w w4 p ao4 lo lcap (encStep (enc L) (mkd kk ww nn uu)) L by show Bk q0 w w4 p ao4 lo lcap (enc L ++ dB (enc L) kk ww nn uu) L; rw [dB4 _ kk ww nn uu k0 k1 k2 k3]; exact hK4).later ((Below.refl _ _).alloc (Nat.le_refl _) _)
                      refine h1.push hgr5 (by simpa using hmv5) (L.length + 1) (by simp) ?_
                      rw [dcells_append]
                      exact hown5
                    have hG5 := good_snoc hG (good4 kk ww nn uu k0 k1 k2 k3 bu.1 bu.2)
                    clear hown5 hgr5 hmv5 hK4 x0 x1 x2 x3
                    go_wp2
                    go_roundw
                    case rel => exact ⟨i + 1, ao4, lo5, lcap5, L ++ [(mkd kk ww nn uu)], by omega, by omega, by simp; omega, by go_num, by simp, hG5, hK5⟩
                    case measure => simp [intOf]; omega
        · have hl' : lightB kk ww nn = false := by simpa using hl
          rw [hl']
          clear hl hl' d0 d1 d2 d3
          go_wp2
          go_roundw
          case rel => exact ⟨i + 1, ao, lo, lcap, L, by omega, by omega, by omega, by go_num, rfl, hG, hK3⟩
          case measure => simp [intOf]; omega
      · have hd60 : decide ((i : Int) < 60) = false := by simpa using h60
        obtain ⟨wo, hwo⟩ : ∃ wo : World, wo = wr := ⟨_, rfl⟩
        rw [← hwo] at hK
        have hle8 : (pack (enc L)).length ≤ 1000000000 := by rw [pack_length]; omega
        go_wp2_with fail
        rw [← hwo]
        clear hwo
        refine (bytes_spec p wo ao (enc L) h01 (by omega) hK.wr).mono ?_
        rintro e w6 ⟨rfl, rfl⟩
        obtain ⟨s, hsd⟩ : ∃ s, s = textOf (pack (enc L)) := ⟨_, rfl⟩
        rw [← hsd]
        have hsz : s.size = ((enc L).length + 7) / 8 := by rw [hsd, textOf_size, pack_length]
        have hs : s.size ≤ 1000000000000000000 := by omega
        have HSD : Hid _ := hsd
        have HSZ : Hid _ := hsz
        clear hsd hsz hle8
        go_wp2_with fail
        refine (of_spec s hs w6).mono ?_
        rintro e w7 ⟨rfl, hR7, hB7⟩
        obtain ⟨q, hq⟩ : ∃ q, q = w6.heap.size := ⟨_, rfl⟩
        rw [← hq] at hR7 ⊢
        have hlq : blockOf lo ≠ some q := fun e => by have := own_block_lt hK.own q e; omega
        have hO7 : w7.ownsRow 0 32 4 (.slice lo L.length lcap) L.length (dcells L) := own_stays hK.own (Stays.of_below hB7 (fun _ => False)) (fun _ _ h => h)
        have hq0q : q0 ≤ q := by have := hK.size; omega
        have hB07 : Below q0 w w7 := hK.below.trans (hB7.mono hK.size)
        have HK : Hid _ := hK
        clear hK hB7 hq
        go_wp2_with fail
        go_loopw [9] (fun t wr => ∃ j : Nat, j ≤ L.length ∧ t = .int .i64 (j : Int) ∧ Rd wr q s (enc (L.take j)).length ∧ wr.ownsRow 0 32 4 (.slice lo L.length lcap) L.length (dcells L) ∧ Below q0 w wr) (fun t _ => L.length - (intOf t).toNat)
        case atStart => exact ⟨0, Nat.zero_le _, rfl, hR7, hO7, hB07⟩
        case round =>
          obtain ⟨j, hj, rfl, hR, hO, hB⟩ := hrel
          clear hR7 hO7 hB07
          by_cases hjl : (j : Int) < (L.length : Int)
          · have hj2 : j < L.length := by omega
            obtain ⟨g, rfl⟩ : ∃ g, lo = some ⟨g, 0, none⟩ := by
              obtain ⟨ao1, cap1, hv, _, _, hn, hs'⟩ := owns_shape hO
              simp only [Value.slice.injEq, true_and] at hv
              obtain ⟨rfl, rfl⟩ := hv
              cases lo with
              | none => have := (hn rfl).1; omega
              | some a => exact ⟨a.block, by rw [← (hs' a rfl).1]⟩
            have hgd := hG L[j] (List.getElem_mem _)
            have hspl := enc_split L j hj2
            have hT := enc_take_succ L j hj2
            have d0 : wr.cell? ⟨g, j * 4, none⟩ = some (.int .i64 L[j].1) := by rw [hO.cellAt (j * 4) (by omega)]; exact dcells_at L j 0 hj2 (by omega)
            have d1 : wr.cell? ⟨g, j * 4 + 1, none⟩ = some (.int .i64 L[j].2.1) := by rw [hO.cellAt (j * 4 + 1) (by omega)]; exact dcells_at L j 1 hj2 (by omega)
            have d2 : wr.cell? ⟨g, j * 4 + 2, none⟩ = some (.int .i64 L[j].2.2.1) := by rw [hO.cellAt (j * 4 + 2) (by omega)]; exact dcells_at L j 2 hj2 (by omega)
            have d3 : wr.cell? ⟨g, j * 4 + 3, none⟩ = some (.int .u64 L[j].2.2.2) := by rw [hO.cellAt (j * 4 + 3) (by omega)]; exact dcells_at L j 3 hj2 (by omega)
            obtain ⟨hgood, bu⟩ := hgd
            generalize L[j].1 = kk at *
            generalize L[j].2.1 = ww at *
            generalize L[j].2.2.1 = nn at *
            generalize L[j].2.2.2 = uu at *
            obtain ⟨R, hR0⟩ := hspl
            obtain ⟨R', hah, hal0⟩ := ahead_pack (enc L) _ _ R h01 hR0
            rw [← HSD.out] at hah hal0
            have ha : (enc (L.take j)).length ≤ 8 * s.size := by omega
            have hal : (enc (L.take j)).length + (dB (enc (L.take j)) kk ww nn uu).length ≤ 8 * s.size := by omega
            have HT : Hid _ := hT
            obtain ⟨c, hc⟩ : ∃ c, c = wr.heap.size := ⟨_, rfl⟩
            obtain ⟨w3, hw3⟩ : ∃ w3, w3 = wr.alloc (.cells #[.int .i64 kk, .int .i64 ww, .int .i64 nn, .int .u64 uu] 32) := ⟨_, rfl⟩
            have hBa : Below wr.heap.size wr w3 := by rw [hw3]; exact (Below.refl _ _).alloc (Nat.le_refl _) _
            have hcb : w3.heap[c]? = some (.cells #[.int .i64 kk, .int .i64 ww, .int .i64 nn, .int .u64 uu] 32 (0, 0)) := by rw [hw3, hc]; exact heap_alloc_new _ _
            have hcl : c < w3.heap.size := lt_of_block hcb
            have hcq : c ≠ q := by have := hR.lt; omega
            have hR3 : Rd w3 q s (enc (L.take j)).length := hR.below hBa
            have hO3 := own_stays hO (Stays.of_below hBa (fun _ => False)) (fun _ _ h => h)
            have hB3 : Below q0 w w3 := hB.trans (hBa.mono (by have := hR.lt; omega))
            have hN3 : q0 ≤ w3.heap.size := by have := hR3.lt; omega
            have e0 : w3.cell? ⟨c, 0, none⟩ = some (.int .i64 kk) := by simp [World.cell?, hcb]
            have e1 : w3.cell? ⟨c, 1, none⟩ = some (.int .i64 ww) := by simp [World.cell?, hcb]
            have e2 : w3.cell? ⟨c, 2, none⟩ = some (.int .i64 nn) := by simp [World.cell?, hcb]
            have e3 : w3.cell? ⟨c, 3, none⟩ = some (.int .u64 uu) := by simp [World.cell?, hcb]
            clear hR hO hB hBa hT hR0 hal0
            have HAH : Hid _ := hah
            have HAL : Hid _ := hal
            have HGD : Hid _ := hgood
            clear hah hal hgood
            by_cases k0 : kk = 0
            · subst k0
              go_wp2_with fail
              rw [← hc, ← hw3]
              clear hw3 hc d0 d1 d2 d3
              have hbk := get_back s _ uu ww bu.1 R' HAH.out HAL.out HGD.out
              refine (get_all s hs _ ha w3 q ww hR3).mono ?_
              rw [hbk.1, hbk.2.1, hbk.2.2]
              rintro e w4 ⟨rfl, hR4, hS4⟩
              have hB4 : Below q0 w3 w4 := only_below hS4 (by omega) (by omega)
              have hO4 := own_stays hO3 hS4 (fun b' hb' hf => by have : b' = q := hf; exact hlq (by rw [← this]; exact hb'))
              have hb4 : w4.heap[c]? = some (.cells #[.int .i64 0, .int .i64 ww, .int .i64 nn, .int .u64 uu] 32 (0, 0)) := (hS4.block c hcl (fun hf => hcq hf)).trans hcb
              have x0 : w4.cell? ⟨c, 0, none⟩ = some (.int .i64 0) := by simp [World.cell?, hb4]
              have x1 : w4.cell? ⟨c, 1, none⟩ = some (.int .i64 ww) := by simp [World.cell?, hb4]
              have x2 : w4.cell? ⟨c, 2, none⟩ = some (.int .i64 nn) := by simp [World.cell?, hb4]
              have x3 : w4.cell? ⟨c, 3, none⟩ = some (.int .u64 uu) := by simp [World.cell?, hb4]
              have HR : Hid (Rd w4 q s (enc (L.take (j + 1))).length) := by
                show Rd w4 q s (enc (L.take (j + 1))).length
                rw [HT.out, List.length_append]
                exact hR4
              have HBB : Hid (Below q0 w w4) := hB3.trans hB4
              clear hR4 hS4 hB4 hO3 hR3 hb4 hB3 e0 e1 e2 e3 hbk
              go_wp2
              go_roundw
              case rel => exact ⟨j + 1, by omega, by go_num, HR.out, hO4, HBB.out⟩
              case measure => simp [intOf]; omega
            · by_cases k1 : kk = 1
              · subst k1
                go_wp2_with fail
                rw [← hc, ← hw3]
                clear hw3 hc d0 d1 d2 d3
                have hbk := sig_back s _ nn ww R' HAH.out HAL.out HGD.out
                refine (signed_all s hs _ ha w3 q ww hR3).mono ?_
                rw [hbk.1, hbk.2.1, hbk.2.2]
                rintro e w4 ⟨rfl, hR4, hS4⟩
                have hB4 : Below q0 w3 w4 := only_below hS4 (by omega) (by omega)
                have hO4 := own_stays hO3 hS4 (fun b' hb' hf => by have : b' = q := hf; exact hlq (by rw [← this]; exact hb'))
                have hb4 : w4.heap[c]? = some (.cells #[.int .i64 1, .int .i64 ww, .int .i64 nn, .int .u64 uu] 32 (0, 0)) := (hS4.block c hcl (fun hf => hcq hf)).trans hcb
                have x0 : w4.cell? ⟨c, 0, none⟩ = some (.int .i64 1) := by simp [World.cell?, hb4]
                have x1 : w4.cell? ⟨c, 1, none⟩ = some (.int .i64 ww) := by simp [World.cell?, hb4]
                have x2 : w4.cell? ⟨c, 2, none⟩ = some (.int .i64 nn) := by simp [World.cell?, hb4]
                have x3 : w4.cell? ⟨c, 3, none⟩ = some (.int .u64 uu) := by simp [World.cell?, hb4]
                have HR : Hid (Rd w4 q s (enc (L.take (j + 1))).length) := by
                  show Rd w4 q s (enc (L.take (j + 1))).length
                  rw [HT.out, List.length_append]
                  exact hR4
                have HBB : Hid (Below q0 w w4) := hB3.trans hB4
                clear hR4 hS4 hB4 hO3 hR3 hb4 hB3 e0 e1 e2 e3 hbk
                go_wp2
                go_roundw
                case rel => exact ⟨j + 1, by omega, by go_num, HR.out, hO4, HBB.out⟩
                case measure => simp [intOf]; omega
              · by_cases k2 : kk = 2
                · subst k2
                  go_wp2_with fail
                  rw [← hc, ← hw3]
                  clear hw3 hc d0 d1 d2 d3
                  have hbk := unr_back s _ nn R' HAH.out HAL.out HGD.out
                  refine (unary_all s hs _ ha w3 q hR3).mono ?_
                  rw [hbk.1, hbk.2.1, hbk.2.2]
                  rintro e w4 ⟨rfl, hR4, hS4⟩
                  have hB4 : Below q0 w3 w4 := only_below hS4 (by omega) (by omega)
                  have hO4 := own_stays hO3 hS4 (fun b' hb' hf => by have : b' = q := hf; exact hlq (by rw [← this]; exact hb'))
                  have hb4 : w4.heap[c]? = some (.cells #[.int .i64 2, .int .i64 ww, .int .i64 nn, .int .u64 uu] 32 (0, 0)) := (hS4.block c hcl (fun hf => hcq hf)).trans hcb
                  have x0 : w4.cell? ⟨c, 0, none⟩ = some (.int .i64 2) := by simp [World.cell?, hb4]
                  have x1 : w4.cell? ⟨c, 1, none⟩ = some (.int .i64 ww) := by simp [World.cell?, hb4]
                  have x2 : w4.cell? ⟨c, 2, none⟩ = some (.int .i64 nn) := by simp [World.cell?, hb4]
                  have x3 : w4.cell? ⟨c, 3, none⟩ = some (.int .u64 uu) := by simp [World.cell?, hb4]
                  have HR : Hid (Rd w4 q s (enc (L.take (j + 1))).length) := by
                    show Rd w4 q s (enc (L.take (j + 1))).length
                    rw [HT.out, List.length_append]
                    exact hR4
                  have HBB : Hid (Below q0 w w4) := hB3.trans hB4
                  clear hR4 hS4 hB4 hO3 hR3 hb4 hB3 e0 e1 e2 e3 hbk
                  go_wp2
                  go_roundw
                  case rel => exact ⟨j + 1, by omega, by go_num, HR.out, hO4, HBB.out⟩
                  case measure => simp [intOf]; omega
                · by_cases k3 : kk = 3
                  · subst k3
                    go_wp2_with fail
                    rw [← hc, ← hw3]
                    clear hw3 hc d0 d1 d2 d3
                    have hbk := ric_back s _ nn ww R' HAH.out HAL.out HGD.out
                    refine (rice_all s hs _ ha w3 q ww hR3).mono ?_
                    rw [hbk.1, hbk.2.1, hbk.2.2]
                    rintro e w4 ⟨rfl, hR4, hS4⟩
                    have hB4 : Below q0 w3 w4 := only_below hS4 (by omega) (by omega)
                    have hO4 := own_stays hO3 hS4 (fun b' hb' hf => by have : b' = q := hf; exact hlq (by rw [← this]; exact hb'))
                    have hb4 : w4.heap[c]? = some (.cells #[.int .i64 3, .int .i64 ww, .int .i64 nn, .int .u64 uu] 32 (0, 0)) := (hS4.block c hcl (fun hf => hcq hf)).trans hcb
                    have x0 : w4.cell? ⟨c, 0, none⟩ = some (.int .i64 3) := by simp [World.cell?, hb4]
                    have x1 : w4.cell? ⟨c, 1, none⟩ = some (.int .i64 ww) := by simp [World.cell?, hb4]
                    have x2 : w4.cell? ⟨c, 2, none⟩ = some (.int .i64 nn) := by simp [World.cell?, hb4]
                    have x3 : w4.cell? ⟨c, 3, none⟩ = some (.int .u64 uu) := by simp [World.cell?, hb4]
                    have HR : Hid (Rd w4 q s (enc (L.take (j + 1))).length) := by
                      show Rd w4 q s (enc (L.take (j + 1))).length
                      rw [HT.out, List.length_append]
                      exact hR4
                    have HBB : Hid (Below q0 w w4) := hB3.trans hB4
                    clear hR4 hS4 hB4 hO3 hR3 hb4 hB3 e0 e1 e2 e3 hbk
                    go_wp2
                    go_roundw
                    case rel => exact ⟨j + 1, by omega, by go_num, HR.out, hO4, HBB.out⟩
                    case measure => simp [intOf]; omega
                  · have k0' : (kk == 0) = false := by simpa using k0
                    have k1' : (kk == 1) = false := by simpa using k1
                    have k2' : (kk == 2) = false := by simpa using k2
                    have k3' : (kk == 3) = false := by simpa using k3
                    have hah := HAH.out
                    rw [dB4 _ kk ww nn uu k0 k1 k2 k3] at hah
                    have HAH2 : Hid _ := hah
                    have hT2 := HT.out
                    rw [dB4 _ kk ww nn uu k0 k1 k2 k3] at hT2
                    have HT : Hid _ := hT2
                    clear k0 k1 k2 k3 hah hT2
                    go_wp2_with fail
                    rw [← hc, ← hw3]
                    clear hw3 hc d0 d1 d2 d3
                    have hbk := ali_back s (enc (L.take j)) R' HAH2.out
                    have hb0 : ((bitsAt s (enc (L.take j)).length (padOf (enc (L.take j)).length) : Int) == 0) = true := by rw [hbk.2]; rfl
                    refine (ralign_spec q s hs _ ha w3 hR3).mono ?_
                    rw [hb0, hbk.1]
                    rintro e w4 ⟨rfl, hR4, hS4⟩
                    have hB4 : Below q0 w3 w4 := only_below hS4 (by omega) (by omega)
                    have hO4 := own_stays hO3 hS4 (fun b' hb' hf => by have : b' = q := hf; exact hlq (by rw [← this]; exact hb'))
                    have hb4 : w4.heap[c]? = some (.cells #[.int .i64 kk, .int .i64 ww, .int .i64 nn, .int .u64 uu] 32 (0, 0)) := (hS4.block c hcl (fun hf => hcq hf)).trans hcb
                    have x0 : w4.cell? ⟨c, 0, none⟩ = some (.int .i64 kk) := by simp [World.cell?, hb4]
                    have x1 : w4.cell? ⟨c, 1, none⟩ = some (.int .i64 ww) := by simp [World.cell?, hb4]
                    have x2 : w4.cell? ⟨c, 2, none⟩ = some (.int .i64 nn) := by simp [World.cell?, hb4]
                    have x3 : w4.cell? ⟨c, 3, none⟩ = some (.int .u64 uu) := by simp [World.cell?, hb4]
                    have HR : Hid (Rd w4 q s (enc (L.take (j + 1))).length) := by
                      show Rd w4 q s (enc (L.take (j + 1))).length
                      rw [HT.out, List.length_append]
                      exact hR4
                    have HBB : Hid (Below q0 w w4) := hB3.trans hB4
                    clear hR4 hS4 hB4 hO3 hR3 hb4 hB3 e0 e1 e2 e3 hbk hb0
                    go_wp2
                    go_roundw
                    case rel => exact ⟨j + 1, by omega, by go_num, HR.out, hO4, HBB.out⟩
                    case measure => simp [intOf]; omega
          · obtain rfl : j = L.length := by omega
            rw [List.take_length] at hR
            have hlf : (enc L).length ≤ 8 * s.size := by have := HSZ.out; omega
            go_wp2_with fail
            refine (left_spec q s hs _ hlf wr hR).mono ?_
            rintro e w8 ⟨rfl, n8, rfl⟩
            have hlt8 : 8 * (s.size : Int) - ((enc L).length : Int) < 8 := by have := HSZ.out; omega
            go_wp2_with fail
            refine (awake_spec _).mono ?_
            rintro e w9 ⟨rfl, hB9⟩
            go_wp2
            go_ret
            exact ⟨rfl, by rw [← HQ0.out]; exact hB.trans (Below.trans (b := wr.drewN n8) ⟨rfl, rfl, rfl, Nat.le_refl _, fun _ _ => rfl⟩ (hB9.mono (by have := hR.lt; show q0 ≤ wr.heap.size; omega)))⟩
    · skip
      obtain ⟨wo, hwo⟩ : ∃ wo : World, wo = wr := ⟨_, rfl⟩
      rw [← hwo] at hK
      have hle8 : (pack (enc L)).length ≤ 1000000000 := by rw [pack_length]; omega
      go_wp2_with fail
      rw [← hwo]
      clear hwo
      refine (bytes_spec p wo ao (enc L) h01 (by omega) hK.wr).mono ?_
      rintro e w6 ⟨rfl, rfl⟩
      obtain ⟨s, hsd⟩ : ∃ s, s = textOf (pack (enc L)) := ⟨_, rfl⟩
      rw [← hsd]
      have hsz : s.size = ((enc L).length + 7) / 8 := by rw [hsd, textOf_size, pack_length]
      have hs : s.size ≤ 1000000000000000000 := by omega
      have HSD : Hid _ := hsd
      have HSZ : Hid _ := hsz
      clear hsd hsz hle8
      go_wp2_with fail
      refine (of_spec s hs w6).mono ?_
      rintro e w7 ⟨rfl, hR7, hB7⟩
      obtain ⟨q, hq⟩ : ∃ q, q = w6.heap.size := ⟨_, rfl⟩
      rw [← hq] at hR7 ⊢
      have hlq : blockOf lo ≠ some q := fun e => by have := own_block_lt hK.own q e; omega
      have hO7 : w7.ownsRow 0 32 4 (.slice lo L.length lcap) L.length (dcells L) := own_stays hK.own (Stays.of_below hB7 (fun _ => False)) (fun _ _ h => h)
      have hq0q : q0 ≤ q := by have := hK.size; omega
      have hB07 : Below q0 w w7 := hK.below.trans (hB7.mono hK.size)
      have HK : Hid _ := hK
      clear hK hB7 hq
      go_wp2_with fail
      go_loopw [9] (fun t wr => ∃ j : Nat, j ≤ L.length ∧ t = .int .i64 (j : Int) ∧ Rd wr q s (enc (L.take j)).length ∧ wr.ownsRow 0 32 4 (.slice lo L.length lcap) L.length (dcells L) ∧ Below q0 w wr) (fun t _ => L.length - (intOf t).toNat)
      case atStart => exact ⟨0, Nat.zero_le _, rfl, hR7, hO7, hB07⟩
      case round =>
        obtain ⟨j, hj, rfl, hR, hO, hB⟩ := hrel
        clear hR7 hO7 hB07
        by_cases hjl : (j : Int) < (L.length : Int)
        · have hj2 : j < L.length := by omega
          obtain ⟨g, rfl⟩ : ∃ g, lo = some ⟨g, 0, none⟩ := by
            obtain ⟨ao1, cap1, hv, _, _, hn, hs'⟩ := owns_shape hO
            simp only [Value.slice.injEq, true_and] at hv
            obtain ⟨rfl, rfl⟩ := hv
            cases lo with
            | none => have := (hn rfl).1; omega
            | some a => exact ⟨a.block, by rw [← (hs' a rfl).1]⟩
          have hgd := hG L[j] (List.getElem_mem _)
          have hspl := enc_split L j hj2
          have hT := enc_take_succ L j hj2
          have d0 : wr.cell? ⟨g, j * 4, none⟩ = some (.int .i64 L[j].1) := by rw [hO.cellAt (j * 4) (by omega)]; exact dcells_at L j 0 hj2 (by omega)
          have d1 : wr.cell? ⟨g, j * 4 + 1, none⟩ = some (.int .i64 L[j].2.1) := by rw [hO.cellAt (j * 4 + 1) (by omega)]; exact dcells_at L j 1 hj2 (by omega)
          have d2 : wr.cell? ⟨g, j * 4 + 2, none⟩ = some (.int .i64 L[j].2.2.1) := by rw [hO.cellAt (j * 4 + 2) (by omega)]; exact dcells_at L j 2 hj2 (by omega)
          have d3 : wr.cell? ⟨g, j * 4 + 3, none⟩ = some (.int .u64 L[j].2.2.2) := by rw [hO.cellAt (j * 4 + 3) (by omega)]; exact dcells_at L j 3 hj2 (by omega)
          obtain ⟨hgood, bu⟩ := hgd
          generalize L[j].1 = kk at *
          generalize L[j].2.1 = ww at *
          generalize L[j].2.2.1 = nn at *
          generalize L[j].2.2.2 = uu at *
          obtain ⟨R, hR0⟩ := hspl
          obtain ⟨R', hah, hal0⟩ := ahead_pack (enc L) _ _ R h01 hR0
          rw [← HSD.out] at hah hal0
          have ha : (enc (L.take j)).length ≤ 8 * s.size := by omega
          have hal : (enc (L.take j)).length + (dB (enc (L.take j)) kk ww nn uu).length ≤ 8 * s.size := by omega
          have HT : Hid _ := hT
          obtain ⟨c, hc⟩ : ∃ c, c = wr.heap.size := ⟨_, rfl⟩
          obtain ⟨w3, hw3⟩ : ∃ w3, w3 = wr.alloc (.cells #[.int .i64 kk, .int .i64 ww, .int .i64 nn, .int .u64 uu] 32) := ⟨_, rfl⟩
          have hBa : Below wr.heap.size wr w3 := by rw [hw3]; exact (Below.refl _ _).alloc (Nat.le_refl _) _
          have hcb : w3.heap[c]? = some (.cells #[.int .i64 kk, .int .i64 ww, .int .i64 nn, .int .u64 uu] 32 (0, 0)) := by rw [hw3, hc]; exact heap_alloc_new _ _
          have hcl : c < w3.heap.size := lt_of_block hcb
          have hcq : c ≠ q := by have := hR.lt; omega
          have hR3 : Rd w3 q s (enc (L.take j)).length := hR.below hBa
          have hO3 := own_stays hO (Stays.of_below hBa (fun _ => False)) (fun _ _ h => h)
          have hB3 : Below q0 w w3 := hB.trans (hBa.mono (by have := hR.lt; omega))
          have hN3 : q0 ≤ w3.heap.size := by have := hR3.lt; omega
          have e0 : w3.cell? ⟨c, 0, none⟩ = some (.int .i64 kk) := by simp [World.cell?, hcb]
          have e1 : w3.cell? ⟨c, 1, none⟩ = some (.int .i64 ww) := by simp [World.cell?, hcb]
          have e2 : w3.cell? ⟨c, 2, none⟩ = some (.int .i64 nn) := by simp [World.cell?, hcb]
          have e3 : w3.cell? ⟨c, 3, none⟩ = some (.int .u64 uu) := by simp [World.cell?, hcb]
          clear hR hO hB hBa hT hR0 hal0
          have HAH : Hid _ := hah
          have HAL : Hid _ := hal
          have HGD : Hid _ := hgood
          clear hah hal hgood
          by_cases k0 : kk = 0
          · subst k0
            go_wp2_with fail
            rw [← hc, ← hw3]
            clear hw3 hc d0 d1 d2 d3
            have hbk := get_back s _ uu ww bu.1 R' HAH.out HAL.out HGD.out
            refine (get_all s hs _ ha w3 q ww hR3).mono ?_
            rw [hbk.1, hbk.2.1, hbk.2.2]
            rintro e w4 ⟨rfl, hR4, hS4⟩
            have hB4 : Below q0 w3 w4 := only_below hS4 (by omega) (by omega)
            have hO4 := own_stays hO3 hS4 (fun b' hb' hf => by have : b' = q := hf; exact hlq (by rw [← this]; exact hb'))
            have hb4 : w4.heap[c]? = some (.cells #[.int .i64 0, .int .i64 ww, .int .i64 nn, .int .u64 uu] 32 (0, 0)) := (hS4.block c hcl (fun hf => hcq hf)).trans hcb
            have x0 : w4.cell? ⟨c, 0, none⟩ = some (.int .i64 0) := by simp [World.cell?, hb4]
            have x1 : w4.cell? ⟨c, 1, none⟩ = some (.int .i64 ww) := by simp [World.cell?, hb4]
            have x2 : w4.cell? ⟨c, 2, none⟩ = some (.int .i64 nn) := by simp [World.cell?, hb4]
            have x3 : w4.cell? ⟨c, 3, none⟩ = some (.int .u64 uu) := by simp [World.cell?, hb4]
            have HR : Hid (Rd w4 q s (enc (L.take (j + 1))).length) := by
              show Rd w4 q s (enc (L.take (j + 1))).length
              rw [HT.out, List.length_append]
              exact hR4
            have HBB : Hid (Below q0 w w4) := hB3.trans hB4
            clear hR4 hS4 hB4 hO3 hR3 hb4 hB3 e0 e1 e2 e3 hbk
            go_wp2
            go_roundw
            case rel => exact ⟨j + 1, by omega, by go_num, HR.out, hO4, HBB.out⟩
            case measure => simp [intOf]; omega
          · by_cases k1 : kk = 1
            · subst k1
              go_wp2_with fail
              rw [← hc, ← hw3]
              clear hw3 hc d0 d1 d2 d3
              have hbk := sig_back s _ nn ww R' HAH.out HAL.out HGD.out
              refine (signed_all s hs _ ha w3 q ww hR3).mono ?_
              rw [hbk.1, hbk.2.1, hbk.2.2]
              rintro e w4 ⟨rfl, hR4, hS4⟩
              have hB4 : Below q0 w3 w4 := only_below hS4 (by omega) (by omega)
              have hO4 := own_stays hO3 hS4 (fun b' hb' hf => by have : b' = q := hf; exact hlq (by rw [← this]; exact hb'))
              have hb4 : w4.heap[c]? = some (.cells #[.int .i64 1, .int .i64 ww, .int .i64 nn, .int .u64 uu] 32 (0, 0)) := (hS4.block c hcl (fun hf => hcq hf)).trans hcb
              have x0 : w4.cell? ⟨c, 0, none⟩ = some (.int .i64 1) := by simp [World.cell?, hb4]
              have x1 : w4.cell? ⟨c, 1, none⟩ = some (.int .i64 ww) := by simp [World.cell?, hb4]
              have x2 : w4.cell? ⟨c, 2, none⟩ = some (.int .i64 nn) := by simp [World.cell?, hb4]
              have x3 : w4.cell? ⟨c, 3, none⟩ = some (.int .u64 uu) := by simp [World.cell?, hb4]
              have HR : Hid (Rd w4 q s (enc (L.take (j + 1))).length) := by
                show Rd w4 q s (enc (L.take (j + 1))).length
                rw [HT.out, List.length_append]
                exact hR4
              have HBB : Hid (Below q0 w w4) := hB3.trans hB4
              clear hR4 hS4 hB4 hO3 hR3 hb4 hB3 e0 e1 e2 e3 hbk
              go_wp2
              go_roundw
              case rel => exact ⟨j + 1, by omega, by go_num, HR.out, hO4, HBB.out⟩
              case measure => simp [intOf]; omega
            · by_cases k2 : kk = 2
              · subst k2
                go_wp2_with fail
                rw [← hc, ← hw3]
                clear hw3 hc d0 d1 d2 d3
                have hbk := unr_back s _ nn R' HAH.out HAL.out HGD.out
                refine (unary_all s hs _ ha w3 q hR3).mono ?_
                rw [hbk.1, hbk.2.1, hbk.2.2]
                rintro e w4 ⟨rfl, hR4, hS4⟩
                have hB4 : Below q0 w3 w4 := only_below hS4 (by omega) (by omega)
                have hO4 := own_stays hO3 hS4 (fun b' hb' hf => by have : b' = q := hf; exact hlq (by rw [← this]; exact hb'))
                have hb4 : w4.heap[c]? = some (.cells #[.int .i64 2, .int .i64 ww, .int .i64 nn, .int .u64 uu] 32 (0, 0)) := (hS4.block c hcl (fun hf => hcq hf)).trans hcb
                have x0 : w4.cell? ⟨c, 0, none⟩ = some (.int .i64 2) := by simp [World.cell?, hb4]
                have x1 : w4.cell? ⟨c, 1, none⟩ = some (.int .i64 ww) := by simp [World.cell?, hb4]
                have x2 : w4.cell? ⟨c, 2, none⟩ = some (.int .i64 nn) := by simp [World.cell?, hb4]
                have x3 : w4.cell? ⟨c, 3, none⟩ = some (.int .u64 uu) := by simp [World.cell?, hb4]
                have HR : Hid (Rd w4 q s (enc (L.take (j + 1))).length) := by
                  show Rd w4 q s (enc (L.take (j + 1))).length
                  rw [HT.out, List.length_append]
                  exact hR4
                have HBB : Hid (Below q0 w w4) := hB3.trans hB4
                clear hR4 hS4 hB4 hO3 hR3 hb4 hB3 e0 e1 e2 e3 hbk
                go_wp2
                go_roundw
                case rel => exact ⟨j + 1, by omega, by go_num, HR.out, hO4, HBB.out⟩
                case measure => simp [intOf]; omega
              · by_cases k3 : kk = 3
                · subst k3
                  go_wp2_with fail
                  rw [← hc, ← hw3]
                  clear hw3 hc d0 d1 d2 d3
                  have hbk := ric_back s _ nn ww R' HAH.out HAL.out HGD.out
                  refine (rice_all s hs _ ha w3 q ww hR3).mono ?_
                  rw [hbk.1, hbk.2.1, hbk.2.2]
                  rintro e w4 ⟨rfl, hR4, hS4⟩
                  have hB4 : Below q0 w3 w4 := only_below hS4 (by omega) (by omega)
                  have hO4 := own_stays hO3 hS4 (fun b' hb' hf => by have : b' = q := hf; exact hlq (by rw [← this]; exact hb'))
                  have hb4 : w4.heap[c]? = some (.cells #[.int .i64 3, .int .i64 ww, .int .i64 nn, .int .u64 uu] 32 (0, 0)) := (hS4.block c hcl (fun hf => hcq hf)).trans hcb
                  have x0 : w4.cell? ⟨c, 0, none⟩ = some (.int .i64 3) := by simp [World.cell?, hb4]
                  have x1 : w4.cell? ⟨c, 1, none⟩ = some (.int .i64 ww) := by simp [World.cell?, hb4]
                  have x2 : w4.cell? ⟨c, 2, none⟩ = some (.int .i64 nn) := by simp [World.cell?, hb4]
                  have x3 : w4.cell? ⟨c, 3, none⟩ = some (.int .u64 uu) := by simp [World.cell?, hb4]
                  have HR : Hid (Rd w4 q s (enc (L.take (j + 1))).length) := by
                    show Rd w4 q s (enc (L.take (j + 1))).length
                    rw [HT.out, List.length_append]
                    exact hR4
                  have HBB : Hid (Below q0 w w4) := hB3.trans hB4
                  clear hR4 hS4 hB4 hO3 hR3 hb4 hB3 e0 e1 e2 e3 hbk
                  go_wp2
                  go_roundw
                  case rel => exact ⟨j + 1, by omega, by go_num, HR.out, hO4, HBB.out⟩
                  case measure => simp [intOf]; omega
                · have k0' : (kk == 0) = false := by simpa using k0
                  have k1' : (kk == 1) = false := by simpa using k1
                  have k2' : (kk == 2) = false := by simpa using k2
                  have k3' : (kk == 3) = false := by simpa using k3
                  have hah := HAH.out
                  rw [dB4 _ kk ww nn uu k0 k1 k2 k3] at hah
                  have HAH2 : Hid _ := hah
                  have hT2 := HT.out
                  rw [dB4 _ kk ww nn uu k0 k1 k2 k3] at hT2
                  have HT : Hid _ := hT2
                  clear k0 k1 k2 k3 hah hT2
                  go_wp2_with fail
                  rw [← hc, ← hw3]
                  clear hw3 hc d0 d1 d2 d3
                  have hbk := ali_back s (enc (L.take j)) R' HAH2.out
                  have hb0 : ((bitsAt s (enc (L.take j)).length (padOf (enc (L.take j)).length) : Int) == 0) = true := by rw [hbk.2]; rfl
                  refine (ralign_spec q s hs _ ha w3 hR3).mono ?_
                  rw [hb0, hbk.1]
                  rintro e w4 ⟨rfl, hR4, hS4⟩
                  have hB4 : Below q0 w3 w4 := only_below hS4 (by omega) (by omega)
                  have hO4 := own_stays hO3 hS4 (fun b' hb' hf => by have : b' = q := hf; exact hlq (by rw [← this]; exact hb'))
                  have hb4 : w4.heap[c]? = some (.cells #[.int .i64 kk, .int .i64 ww, .int .i64 nn, .int .u64 uu] 32 (0, 0)) := (hS4.block c hcl (fun hf => hcq hf)).trans hcb
                  have x0 : w4.cell? ⟨c, 0, none⟩ = some (.int .i64 kk) := by simp [World.cell?, hb4]
                  have x1 : w4.cell? ⟨c, 1, none⟩ = some (.int .i64 ww) := by simp [World.cell?, hb4]
                  have x2 : w4.cell? ⟨c, 2, none⟩ = some (.int .i64 nn) := by simp [World.cell?, hb4]
                  have x3 : w4.cell? ⟨c, 3, none⟩ = some (.int .u64 uu) := by simp [World.cell?, hb4]
                  have HR : Hid (Rd w4 q s (enc (L.take (j + 1))).length) := by
                    show Rd w4 q s (enc (L.take (j + 1))).length
                    rw [HT.out, List.length_append]
                    exact hR4
                  have HBB : Hid (Below q0 w w4) := hB3.trans hB4
                  clear hR4 hS4 hB4 hO3 hR3 hb4 hB3 e0 e1 e2 e3 hbk hb0
                  go_wp2
                  go_roundw
                  case rel => exact ⟨j + 1, by omega, by go_num, HR.out, hO4, HBB.out⟩
                  case measure => simp [intOf]; omega
        · obtain rfl : j = L.length := by omega
          rw [List.take_length] at hR
          have hlf : (enc L).length ≤ 8 * s.size := by have := HSZ.out; omega
          go_wp2_with fail
          refine (left_spec q s hs _ hlf wr hR).mono ?_
          rintro e w8 ⟨rfl, n8, rfl⟩
          have hlt8 : 8 * (s.size : Int) - ((enc L).length : Int) < 8 := by have := HSZ.out; omega
          go_wp2_with fail
          refine (awake_spec _).mono ?_
          rintro e w9 ⟨rfl, hB9⟩
          go_wp2
          go_ret
          exact ⟨rfl, by rw [← HQ0.out]; exact hB.trans (Below.trans (b := wr.drewN n8) ⟨rfl, rfl, rfl, Nat.le_refl _, fun _ _ => rfl⟩ (hB9.mono (by have := hR.lt; show q0 ≤ wr.heap.size; omega)))⟩

set_option maxRecDepth 100000 in
theorem lifted (os : Os) (started : os.Started) (H : Type) (enc : TypeId × Value → H) :
    ReturnsInHanded {} Try.checked os 5 .any (Rows.bitsBackSpec.pre6 enc Try.prog Try.f5 Rows.bitsBackRow.domain false) (Rows.bitsBackSpec.post enc Try.prog Try.f5 false true false false) := by
  refine returnsInHanded_of_change (C := Try.checked) own started (by kernel_rfl) Try.func5
    (ChangeSpec.witness6 (enc := enc) (C := Try.checked) false ⟨#[], #[.slice none 0 0], []⟩ 8 (by kernel_rfl) (by kernel_rfl) (by kernel_rfl) (by kernel_rfl)) ?_
  intro W base args ds gs before hval0 hW hcnd _
  have hval : ∀ (j : Nat) t v, Try.f5.params[j]? = some t → args[j]? = some v → Value.okWide Try.prog W .any base t v := hval0
  have hW' := hW
  obtain ⟨p, q, hA0, hV, rfl, hfz, hnd⟩ := hW
  have hA : DataW.TrodAll enc Try.prog W 0 (fun _ => true) true Try.f5.params.toList args.toList ds p := hA0
  rw [Try.params5] at hA hval
  obtain ⟨v0, vs0, d0, ds0, p0, q0, hargs, rfl, rfl, h0, r0⟩ := trodAll_cons hA
  obtain ⟨rfl, rfl, rfl⟩ := trodAll_nil r0
  obtain rfl : args = #[v0] := by cases args; simp_all
  obtain ⟨rfl, rfl⟩ := trodVars_none hV
  obtain ⟨ao, len, cap, rfl⟩ := okWide_slice Try.underlying22 (hval 0 22 v0 rfl rfl)
  have k0 := h0
  have lt0 : ∀ x ∈ p0, x.block < W.heap.size := by obtain ⟨m, hm⟩ := k0; exact DataW.trod_lt m _ _ _ hm
  obtain ⟨hlen, b, off, K, Wd, N, U, hd⟩ := open_deeds h0
  clear hA0 hval0
  refine (walk ao len cap b off (by simpa [maxLen] using hlen) K Wd N U W hd).mono fun e W' ⟨he, bel⟩ => ?_
  subst he
  exact ⟨_, rfl, _, _, _, [], _, [], hW', trodAll_mk1 (shut_bool Try.underlying4 _), (trodAll_cons_mk (Below.trod laidOut (by kernel_rfl) (of_decide_eq_true (by kernel_rfl)) k0 bel lt0) trodAll_mk0), rfl, bel.frame _, fun h => by cases h⟩

theorem over : Rows.bitsBackRow.holds Try.pinned (OpenSpec.ofChange Rows.bitsBackSpec) :=
  OpenClaim.holds_of_wide 5 Try.f5 rfl rfl rfl rfl rfl rfl rfl ⟨rfl, rfl, rfl, rfl, rfl⟩ rfl rfl rfl rfl rfl (by kernel_rfl) Try.func5 (by kernel_rfl)
    (of_decide_eq_true (by kernel_rfl)) (by unfold Func.isWrapper; first | (rw [if_pos (by decide +kernel)]; kernel_rfl) | (rw [if_neg (by decide +kernel)]; exact ⟨rfl, rfl⟩))
    (fun os started H enc _ => lifted os started H enc)

end Go.Proofs.Ytkikoamaceajcaa.bitsBack
namespace Go.Proofs.Ytkikoamaceajcaa
theorem bitsBack_holds : Rows.BitsBackSaid := bitsBack.over
#print axioms bitsBack_holds
end Go.Proofs.Ytkikoamaceajcaa
