/- Own text: the walk of bare. the walk of Chunks. the walks of mayStand, sizeOf, told. (*strings.Builder).WriteByte, by the library's promise. lay's builder. -/
import Derived.Test.YtaepgjheknkojaaGreatQ6own
import Derived.Test.YtaepgjheknkojaaGreatR6chunks
import Derived.WalkMore
import Derived.ScopeJumps
import Derived.Test.YtaepgjheknkojaaGreatG18x
import Derived.Test.YtaepgjheknkojaaGreatQ5shelf
import Derived.Test.YtaepgjheknkojaaGreatG16x
import Derived.Shelf.Strings.BuilderK
namespace Go.Proofs.YtaepgjheknkojaaGreat
open Go.RowKit
set_option linter.unusedSimpArgs false
set_option linter.unusedVariables false

theorem two_row (w : World) (o : Obj) (d : Array Value) : ((w.alloc o).alloc (.cells d 55)).heap[w.heap.size + 1]? = some (.cells d 55 (0, 0)) := by
  rw [← show (w.alloc o).heap.size = w.heap.size + 1 from by simp]
  exact heap_alloc_new _ _

def bareC (c : Chk) : Chk := if c.id.toList == idData.toList then ⟨c.id, ⟨#[]⟩, c.pad⟩ else c
end Go.Proofs.YtaepgjheknkojaaGreat

namespace Go.Proofs.YtaepgjheknkojaaGreat
open Go.RowKit
set_option linter.unusedSimpArgs false
set_option linter.unusedVariables false

theorem wp_scope_round {P : Program} {Q : Exit → Act → World → Prop} {a : Act} {w : World} {c rest : Code} (l : Nat) (J : Act → World → Prop) (μ : Act → World → Nat) (hf : findLabel c l = some (Code.skip.seq rest))
    (pass : ∀ a w, J a w → rest.wp P (Exit.jump l (fun a' w' => J a' w' ∧ μ a' w' < μ a w) Q) a w)
    (first : (∀ a w, J a w → rest.wp P (Exit.jump l J Q) a w) → c.wp P (Exit.jump l J Q) a w) : (Code.scope c).wp P Q a w := by
  refine wp_scope_jumps l J μ hf (first fun a w h => ?_) (fun a w h => wp_seq (wp_skip (pass a w h)))
  refine wp_mono (pass a w h) fun e a' w' hq => ?_
  cases e with
  | goto l' => exact ⟨hq.1, hq.2.1⟩
  | _ => exact hq
def strSz : Value → Nat
  | .string s => s.size
  | _ => 0
/-- The chunks that a text is, behind those that were read. -/
def chunkN : Nat → Siz → List Chk → ByteArray → List Chk × Int
  | 0, _, l, _ => (l, 0)
  | n + 1, z, l, s => if s.size = 0 then (l, 0) else if begB z s = true then (if 1024 ≤ l.length then ([], 5) else chunkN n z (l ++ [begC z s]) (begR z s)) else ([], 2)
theorem chunkN_end (n : Nat) (z : Siz) (l : List Chk) (s : ByteArray) (h : s.size = 0) : chunkN (n + 1) z l s = (l, 0) := by rw [chunkN, if_pos h]
theorem chunkN_bad (n : Nat) (z : Siz) (l : List Chk) (s : ByteArray) (h : ¬ s.size = 0) (hb : begB z s = false) : chunkN (n + 1) z l s = ([], 2) := by rw [chunkN, if_neg h, hb]; rfl
theorem chunkN_many (n : Nat) (z : Siz) (l : List Chk) (s : ByteArray) (h : ¬ s.size = 0) (hb : begB z s = true) (hl : 1024 ≤ l.length) : chunkN (n + 1) z l s = ([], 5) := by rw [chunkN, if_neg h, if_pos hb, if_pos hl]
theorem chunkN_step (n : Nat) (z : Siz) (l : List Chk) (s : ByteArray) (h : ¬ s.size = 0) (hb : begB z s = true) (hl : ¬ 1024 ≤ l.length) : chunkN (n + 1) z l s = chunkN n z (l ++ [begC z s]) (begR z s) := by rw [chunkN, if_neg h, if_pos hb, if_neg hl]
theorem begR_size (z : Siz) (s : ByteArray) (h : begB z s = true) : (begR z s).size + 8 ≤ s.size := by
  have := begN_le z s h
  unfold begR
  rw [ext_size _ _ _ this.2 (Nat.le_refl _)]
  omega
theorem begC_sizes (z : Siz) (s : ByteArray) : (begC z s).id.size ≤ s.size ∧ (begC z s).body.size ≤ s.size := by
  refine ⟨?_, ?_⟩
  · show (s.extract 0 4).size ≤ _
    rw [ByteArray.size_extract]
    omega
  · show (s.extract 8 _).size ≤ _
    rw [ByteArray.size_extract]
    omega

set_option maxRecDepth 20000 in
set_option maxHeartbeats 6400000 in
theorem chunks_spec (s : ByteArray) (big : Bool) (w : World) (hs : s.size ≤ 140737488351232) :
    Calls Tryz.prog 76 #[.string s, .bool big] w fun e w' => ∃ ao cap, e = .returned (.tuple #[.slice ao (chunkN (s.size + 1) ⟨big, ⟨#[]⟩, 0⟩ [] s).1.length cap, .int .i64 (chunkN (s.size + 1) ⟨big, ⟨#[]⟩, 0⟩ [] s).2]) ∧ ChksAt w' ao (chunkN (s.size + 1) ⟨big, ⟨#[]⟩, 0⟩ [] s).1 ∧ Below w.heap.size w w' := by
  have HG0 : Hid (Gc w noS [] w) := ⟨World.ownsRow_nil _ _ _ _, Below.refl _ _⟩
  obtain ⟨R, hR⟩ : ∃ R, chunkN (s.size + 1) ⟨big, ⟨#[]⟩, 0⟩ [] s = R := ⟨_, rfl⟩
  have HR0 : Hid (R = chunkN (s.size + 1) ⟨big, ⟨#[]⟩, 0⟩ [] s) := hR.symm
  rw [hR]
  clear hR
  obtain ⟨iK, hK0, hK1, hK2, hK3⟩ := info_parts5 infoK3
  have HIK : Hid (Tryz.prog.info? 55 = some iK ∧ iK.zero = some (.agg zeroK) ∧ iK.size = 3 ∧ iK.bytes = 40) := ⟨hK0, hK1, hK2, hK3⟩
  clear hK0 hK1 hK2 hK3
  go_enter Tryz.func76, Tryz.ntmps76
  go_wp2_with fail
  refine wp_scope_round 0 (fun a' wr => ∃ (s' : ByteArray) (g : Value) (acc : List Chk) (fuel : Nat) (u7 u8 u9 u10 u11 u12 u13 u14 u15 u16 u17 u18 u19 u20 u21 u22 u23 u24 u25 u26 u27 u28 u29 u30 u31 : Value), a' = { tmps := #[.string s', .bool big, undef, undef, .slice none 0 0, .int .i64 0, g, u7, u8, u9, u10, u11, u12, u13, u14, u15, u16, u17, u18, u19, u20, u21, u22, u23, u24, u25, u26, u27, u28, u29, u30, u31], defers := [] } ∧ s'.size ≤ 140737488351232 ∧ s'.size ≤ fuel ∧ acc.length ≤ 1024 ∧ R = chunkN (fuel + 1) ⟨big, ⟨#[]⟩, 0⟩ acc s' ∧ Gc w g acc wr) (fun a' _ => strSz (a'.tmps.getD 0 undef)) rfl ?_ ?_
  · rintro a' wr ⟨s', g, acc, fuel, u7, u8, u9, u10, u11, u12, u13, u14, u15, u16, u17, u18, u19, u20, u21, u22, u23, u24, u25, u26, u27, u28, u29, u30, u31, rfl, hs', hf, hal, hR, hg⟩
    obtain ⟨va, vc, rfl⟩ := hg.shape
    have HR : Hid (R = chunkN (fuel + 1) ⟨big, ⟨#[]⟩, 0⟩ acc s') := hR
    have HG : Hid (Gc w (.slice va acc.length vc) acc wr) := hg
    clear hR hg HR0 HG0
    by_cases h0 : s'.size = 0
    · have he := isEmpty_true s' h0
      have HE : Hid (R = (acc, 0)) := HR.out.trans (chunkN_end _ _ _ _ h0)
      obtain ⟨ao, cap, hv, hat⟩ := ChksAt.own HG.out.own
      have HAT : Hid (ChksAt wr ao acc) := hat
      have HBL : Hid (Below w.heap.size w wr) := HG.out.below
      cases hv
      clear hat HG HR
      go_wp2_with fail
      simp only [Exit.jump]
      go_ret2
      exact ⟨va, vc, by rw [HE.out]; rfl, by rw [HE.out]; exact HAT.out, HBL.out⟩
    · have he := isEmpty_false s' (by omega)
      cases hb : begB ⟨big, ⟨#[]⟩, 0⟩ s'
      · have ko := begin_no ⟨big, ⟨#[]⟩, 0⟩ s' (acc.length : Int) wr hs' hb
        have HE : Hid (R = ([], 2)) := HR.out.trans (chunkN_bad _ _ _ _ h0 hb)
        clear HR hb
        go_wp2_with fail
        refine ko.mono ?_
        rintro e w2 ⟨rfl, hB⟩
        have HB : Hid (Below w.heap.size w w2) := HG.out.below.trans (hB.mono HG.out.below.size)
        clear ko hB
        go_wp2_with fail
        simp only [Exit.jump]
        go_ret2
        exact ⟨none, 0, by rw [HE.out]; rfl, by rw [HE.out]; exact ChksAt.nil _ _, HB.out.alloc HB.out.size _⟩
      · by_cases h1024 : 1024 ≤ acc.length
        · have ko := begin_full ⟨big, ⟨#[]⟩, 0⟩ s' (acc.length : Int) wr hs' hb (by omega)
          have HE : Hid (R = ([], 5)) := HR.out.trans (chunkN_many _ _ _ _ h0 hb h1024)
          clear HR hb
          go_wp2_with fail
          refine ko.mono ?_
          rintro e w2 ⟨rfl, hB⟩
          have HB : Hid (Below w.heap.size w w2) := HG.out.below.trans (hB.mono HG.out.below.size)
          clear ko hB
          go_wp2_with fail
          simp only [Exit.jump]
          go_ret2
          exact ⟨none, 0, by rw [HE.out]; rfl, by rw [HE.out]; exact ChksAt.nil _ _, HB.out.alloc HB.out.size _⟩
        · have ko := begin_yes ⟨big, ⟨#[]⟩, 0⟩ s' (acc.length : Int) wr hs' hb (by omega)
          have HE : Hid (R = chunkN fuel ⟨big, ⟨#[]⟩, 0⟩ (acc ++ [begC ⟨big, ⟨#[]⟩, 0⟩ s']) (begR ⟨big, ⟨#[]⟩, 0⟩ s')) := HR.out.trans (chunkN_step _ _ _ _ h0 hb h1024)
          have hrs := begR_size ⟨big, ⟨#[]⟩, 0⟩ s' hb
          have hcs := begC_sizes ⟨big, ⟨#[]⟩, 0⟩ s'
          have kw := own_spec (begC ⟨big, ⟨#[]⟩, 0⟩ s') (by omega) (by omega)
          clear HR hb hcs
          generalize begC ⟨big, ⟨#[]⟩, 0⟩ s' = C at *
          generalize begR ⟨big, ⟨#[]⟩, 0⟩ s' = X at *
          obtain ⟨fuel', rfl⟩ : ∃ f', fuel = f' + 1 := ⟨fuel - 1, by omega⟩
          go_wp2_with fail
          refine ko.mono ?_
          rintro e w2 ⟨rfl, hB⟩
          have HG2 : Hid (Gc w (.slice va acc.length vc) acc (w2.alloc (.cells (chkC C) 55))) := (HG.out.next hB).next ((Below.refl _ _).alloc (Nat.le_refl _) _)
          clear ko hB HG
          go_wp2_with fail
          refine (kw _).mono ?_
          rintro e w4 ⟨rfl, hB4⟩
          have HG4 : Hid (Gc w (.slice va acc.length vc) acc (w4.alloc (.cells (chkC C) 55))) := (HG2.out.next hB4).next ((Below.refl _ _).alloc (Nat.le_refl _) _)
          have HNW : Hid (∀ j u, [Value.string C.id, .string C.body, .int .i64 C.pad][j]? = some u → (w4.alloc (.cells (chkC C) 55)).cell? ((⟨w4.heap.size, 0, none⟩ : Addr).add j) = some u) := fun j u hj => three_cells (w := w4) (e := 55) j u hj
          clear kw hB4 HG2
          go_wp2_with (at_builtin; refine wpList_append_row _ rfl (.tmp 26) (.tmp 29) 25 rfl w.heap.size 55 iK (.agg zeroK) 3 40 Tryz.underlying25 HIK.out.1 HIK.out.2.1 HIK.out.2.2.1 HIK.out.2.2.2 rfl (by decide) (.slice va acc.length vc) acc.length _ rfl HG4.out.own ⟨w4.heap.size, 0, none⟩ 1 1 [.string C.id, .string C.body, .int .i64 C.pad] rfl rfl HNW.out (by simp [Value.oneCell']) (by simp only [maxLen]; omega) (by omega) HG4.out.below.size ?_; intro v6 w6 ho6 hg6)
          have HG6 : Hid (Gc w v6 (acc ++ [C]) w6) := HG4.out.push ho6.out hg6.out
          go_step3
          refine ⟨rfl, ⟨X, v6, acc ++ [C], fuel', _, _, _, _, _, _, _, _, _, _, _, _, _, _, _, _, _, _, _, _, _, _, _, _, _, rfl, by omega, by omega, by rw [List.length_append]; simp; omega, HE.out, HG6.out⟩, ?_⟩
          show X.size < s'.size
          omega
  · intro hp
    go_wp2_with fail
    go_step3
    rename_i hgo
    refine hgo _ _ ?_
    refine hp _ _ ⟨s, noS, [], s.size, _, _, _, _, _, _, _, _, _, _, _, _, _, _, _, _, _, _, _, _, _, _, _, _, _, rfl, hs, Nat.le_refl _, by simp, HR0.out, HG0.out⟩

end Go.Proofs.YtaepgjheknkojaaGreat

namespace Go.Proofs.YtaepgjheknkojaaGreat
open Go.RowKit
set_option linter.unusedSimpArgs false
set_option linter.unusedVariables false

/-- Chunks whose texts a machine can hold. -/
def FairL (l : List Chk) : Prop := ∀ c ∈ l, c.id.size ≤ 140737488351232 ∧ c.body.size ≤ 140737488351232
def standB (l : List Chk) : Bool := decide (l.length ≤ 1024) && layAll l
theorem standB_many (l : List Chk) (h : ¬ l.length ≤ 1024) : standB l = false := by unfold standB; rw [decide_eq_false h]; rfl
theorem standB_no (l : List Chk) (i : Nat) (c : Chk) (hi : l[i]? = some c) (h : layOk c (decide (i + 1 = l.length)) = false) : standB l = false := by
  cases hq : standB l
  · rfl
  · unfold standB at hq
    rw [(layAll_iff l).1 (Bool.and_eq_true_iff.1 hq).2 i c hi] at h
    cases h
theorem standB_yes (l : List Chk) (hl : l.length ≤ 1024) (h : ∀ (i : Nat) (c : Chk), l[i]? = some c → layOk c (decide (i + 1 = l.length)) = true) : standB l = true := by
  unfold standB
  rw [decide_eq_true hl, (layAll_iff l).2 h]
  rfl
theorem last_eq (k n : Nat) : ((k : Int) == (n : Int) - 1) = decide (k + 1 = n) := by
  rw [Bool.eq_iff_iff, beq_iff_eq, decide_eq_true_iff]
  omega

set_option maxRecDepth 20000 in
set_option maxHeartbeats 3200000 in
theorem mayStand_spec (l : List Chk) (ao : Option Addr) (cap : Nat) (w : World) (hl : ChksAt w ao l) (hf : FairL l) (hll : l.length ≤ 9000000000000000) :
    Calls Tryz.prog 95 #[.slice ao l.length cap] w fun e w' => e = .returned (.bool (standB l)) ∧ Below w.heap.size w w' := by
  have HL : Hid (ChksAt w ao l) := hl
  have HF : Hid (FairL l) := hf
  clear hl hf
  by_cases h1024 : l.length ≤ 1024
  · go_enter Tryz.func95, Tryz.ntmps95
    go_wp2_with fail
    go_loopw [11] (fun t wr => ∃ k : Nat, k ≤ l.length ∧ t = .int .i64 (k : Int) ∧ (∀ (j : Nat) (c : Chk), j < k → l[j]? = some c → layOk c (decide (j + 1 = l.length)) = true) ∧ Below w.heap.size w wr) (fun t _ => l.length - (intOf t).toNat)
    case atStart => exact ⟨0, Nat.zero_le _, rfl, fun j c h => absurd h (Nat.not_lt_zero _), Below.refl _ _⟩
    case round =>
      obtain ⟨k, hk, rfl, hall, hB⟩ := hrel
      have HALL : Hid (∀ (j : Nat) (c : Chk), j < k → l[j]? = some c → layOk c (decide (j + 1 = l.length)) = true) := hall
      have HB : Hid (Below w.heap.size w wr) := hB
      clear hall hB
      by_cases hlt : k < l.length
      · obtain ⟨c, hc⟩ : ∃ c, l[k]? = some c := ⟨_, List.getElem?_eq_getElem hlt⟩
        have hcm : c ∈ l := List.mem_of_getElem? hc
        obtain ⟨b, off, rfl, hcl⟩ := HL.out.at k c hc
        obtain ⟨x0, x1, x2⟩ := hcl wr HB.out
        have ki := isId_spec c.id (by have := (HF.out c hcm).1; omega) (wr.alloc (.cells (chkC c) 55))
        have HBa : Hid (Below w.heap.size w (wr.alloc (.cells (chkC c) 55))) := HB.out.alloc HB.out.size _
        have kp := mayHavePad_spec c (decide (k + 1 = l.length)) (wr.alloc (.cells (chkC c) 55))
        have hlast := last_eq k l.length
        have HK : Hid (layOk c (decide (k + 1 = l.length)) = (idB c.id && padOk c (decide (k + 1 = l.length)))) := layOk_eq _ _
        have HNO : Hid (layOk c (decide (k + 1 = l.length)) = false → standB l = false) := fun q => standB_no l k c hc q
        have HYE : Hid (layOk c (decide (k + 1 = l.length)) = true → ∀ (j : Nat) (c : Chk), j < k + 1 → l[j]? = some c → layOk c (decide (j + 1 = l.length)) = true) := fun q j d hj hd => by
          by_cases e : j = k
          · subst e
            rw [hc] at hd
            cases hd
            exact q
          · exact HALL.out j d (by omega) hd
        generalize decide (k + 1 = l.length) = lb at *
        clear hcl hc hcm HALL
        cases hid : idB c.id
        · have HN : Hid (standB l = false) := HNO.out (by rw [HK.out, hid]; rfl)
          rw [hid] at ki
          clear HNO HYE HK kp
          go_wp2_with fail
          refine ki.mono ?_
          rintro e w2 ⟨rfl, rfl⟩
          clear ki
          go_wp2_with fail
          go_ret
          exact ⟨by rw [HN.out]; rfl, HBa.out⟩
        · rw [hid] at ki
          cases hp : padOk c lb
          · have HN : Hid (standB l = false) := HNO.out (by rw [HK.out, hid, hp]; rfl)
            rw [hp] at kp
            clear HNO HYE HK
            go_wp2_with fail
            refine ki.mono ?_
            rintro e w2 ⟨rfl, rfl⟩
            clear ki
            go_wp2_with fail
            refine kp.mono ?_
            rintro e w3 ⟨rfl, hB3⟩
            have HB3 : Hid (Below w.heap.size w w3) := HBa.out.trans (hB3.mono HBa.out.size)
            clear kp hB3
            go_wp2_with fail
            go_ret
            exact ⟨by rw [HN.out]; rfl, HB3.out⟩
          · have HY := HYE.out (by rw [HK.out, hid, hp]; rfl)
            have HYY : Hid _ := HY
            rw [hp] at kp
            clear HNO HYE HK HY
            go_wp2_with fail
            refine ki.mono ?_
            rintro e w2 ⟨rfl, rfl⟩
            clear ki
            go_wp2_with fail
            refine kp.mono ?_
            rintro e w3 ⟨rfl, hB3⟩
            have HB3 : Hid (Below w.heap.size w w3) := HBa.out.trans (hB3.mono HBa.out.size)
            clear kp hB3
            go_wp2_with fail
            go_roundw
            case rel => exact ⟨k + 1, by omega, by go_num, HYY.out, HB3.out⟩
            case measure => simp [intOf]; omega
      · have HN : Hid (standB l = true) := standB_yes l h1024 (fun i c hi => HALL.out i c (by have := (List.getElem?_eq_some_iff.1 hi).1; omega) hi)
        clear HALL
        go_wp2_with fail
        go_ret
        exact ⟨by rw [HN.out]; rfl, HB.out⟩
  · have HN : Hid (standB l = false) := standB_many l h1024
    go_enter Tryz.func95, Tryz.ntmps95
    go_wp2_with fail
    go_ret
    exact ⟨by rw [HN.out]; rfl, Below.refl _ _⟩

/-- How many bytes a chunk has. -/
def sizeC (c : Chk) : Nat := 8 + c.body.size + (if hasPadB c then 1 else 0)
def sizeL (l : List Chk) : Nat := (l.map sizeC).sum
theorem sizeL_take (l : List Chk) (k : Nat) (c : Chk) (h : l[k]? = some c) : sizeL (l.take (k + 1)) = sizeL (l.take k) + sizeC c := by
  obtain ⟨hi, rfl⟩ := List.getElem?_eq_some_iff.1 h
  unfold sizeL
  rw [List.take_succ_eq_append_getElem hi, List.map_append, List.sum_append]
  simp
theorem sizeL_le (l : List Chk) (k : Nat) : sizeL (l.take k) ≤ sizeL l := by
  have e : sizeL l = sizeL (l.take k) + sizeL (l.drop k) := by
    unfold sizeL
    rw [← List.sum_append, ← List.map_append, List.take_append_drop]
  omega

set_option maxRecDepth 20000 in
set_option maxHeartbeats 3200000 in
theorem sizeOf_spec (l : List Chk) (ao : Option Addr) (cap : Nat) (w : World) (hl : ChksAt w ao l) (hll : l.length ≤ 9000000000000000) (hsz : sizeL l ≤ 4000000000000000000) :
    Calls Tryz.prog 116 #[.slice ao l.length cap] w fun e w' => e = .returned (.int .i64 (sizeL l : Int)) ∧ Below w.heap.size w w' := by
  have HL : Hid (ChksAt w ao l) := hl
  clear hl
  go_enter Tryz.func116, Tryz.ntmps116
  go_wp2_with fail
  go_loopw [3, 8] (fun v t wr => ∃ k : Nat, k ≤ l.length ∧ t = .int .i64 (k : Int) ∧ v = .int .i64 (sizeL (l.take k) : Int) ∧ Below w.heap.size w wr) (fun _ t _ => l.length - (intOf t).toNat)
  case atStart => exact ⟨0, Nat.zero_le _, rfl, rfl, Below.refl _ _⟩
  case round =>
    obtain ⟨k, hk, rfl, rfl, hB⟩ := hrel
    have HB : Hid (Below w.heap.size w wr) := hB
    clear hB
    by_cases hlt : k < l.length
    · obtain ⟨c, hc⟩ : ∃ c, l[k]? = some c := ⟨_, List.getElem?_eq_getElem hlt⟩
      obtain ⟨b, off, rfl, hcl⟩ := HL.out.at k c hc
      obtain ⟨x0, x1, x2⟩ := hcl wr HB.out
      have HST : Hid (sizeL (l.take (k + 1)) = sizeL (l.take k) + (8 + c.body.size + (if hasPadB c then 1 else 0))) := sizeL_take l k c hc
      have hle := sizeL_le l (k + 1)
      have hle2 : sizeL (l.take k) + (8 + c.body.size + (if hasPadB c then 1 else 0)) ≤ 4000000000000000000 := by have := HST.out; omega
      have kp := hasPad_spec c (wr.alloc (.cells (chkC c) 55))
      have HBa : Hid (Below w.heap.size w (wr.alloc (.cells (chkC c) 55))) := HB.out.alloc HB.out.size _
      obtain ⟨S1, hS1⟩ : ∃ S1, sizeL (l.take (k + 1)) = S1 := ⟨_, rfl⟩
      have HSS : Hid (sizeL (l.take (k + 1)) = S1) := hS1
      rw [hS1] at HST hle
      clear hS1
      generalize hS0 : sizeL (l.take k) = S0 at *
      clear hcl hc hS0 HB
      cases hp : hasPadB c
      · rw [hp] at kp HST hle2
        have h3 : S0 + (8 + c.body.size) ≤ 4000000000000000000 := by simpa using hle2
        have HS1 : Hid ((S1 : Int) = (S0 : Int) + (8 + (c.body.size : Int))) := by
          show _ = _
          rw [HST.out]
          simp
        clear hle2 HST
        go_wp2_with fail
        refine kp.mono ?_
        rintro e w3 ⟨rfl, hB3⟩
        have HB3 : Hid (Below w.heap.size w w3) := HBa.out.trans (hB3.mono HBa.out.size)
        clear kp hB3
        go_wp2_with fail
        go_roundw
        case rel => exact ⟨k + 1, by omega, by go_num, by rw [HSS.out, HS1.out], HB3.out⟩
        case measure => simp [intOf]; omega
      · rw [hp] at kp HST hle2
        have h3 : S0 + (8 + c.body.size + 1) ≤ 4000000000000000000 := by simpa using hle2
        have HS1 : Hid ((S1 : Int) = (S0 : Int) + (8 + (c.body.size : Int)) + 1) := by
          show _ = _
          rw [HST.out]
          simp
          omega
        clear hle2 HST
        go_wp2_with fail
        refine kp.mono ?_
        rintro e w3 ⟨rfl, hB3⟩
        have HB3 : Hid (Below w.heap.size w w3) := HBa.out.trans (hB3.mono HBa.out.size)
        clear kp hB3
        go_wp2_with fail
        go_roundw
        case rel => exact ⟨k + 1, by omega, by go_num, by rw [HSS.out, HS1.out], HB3.out⟩
        case measure => simp [intOf]; omega
    · have hke : k = l.length := by omega
      subst hke
      rw [List.take_length]
      go_wp2_with fail
      go_ret
      exact ⟨rfl, HB.out⟩

theorem toT_false (n : Int) : toT n false = leT n 4 := rfl
theorem toT_true (n : Int) : toT n true = beT n 4 := rfl
/-- What stands for a Body's length. -/
def toldN (z : Siz) (c : Chk) : Int := if c.id.toList == z.far.toList then 4294967295 else (c.body.size : Int)
def toldT (z : Siz) (c : Chk) : ByteArray := toT (toldN z c) z.big
set_option maxRecDepth 20000 in
set_option maxHeartbeats 3200000 in
theorem told_spec (z : Siz) (c : Chk) (hb : c.body.size ≤ 140737488351232) (w : World) :
    Calls Tryz.prog 117 #[.agg (sizC z), chkV c] w fun e w' => e = .returned (.string (toldT z c)) ∧ Below w.heap.size w w' := by
  have HB : Hid (Below w.heap.size w ((w.alloc (.cells (sizC z) 145)).alloc (.cells (chkC c) 55))) := ((Below.refl _ _).alloc (Nat.le_refl _) _).alloc (by simp) _
  obtain ⟨big, far, fl⟩ := z
  have kb := fun n h1 h2 => be_spec n 4 h1 h2 ((w.alloc (.cells (sizC ⟨big, far, fl⟩) 145)).alloc (.cells (chkC c) 55))
  have kl := fun n h1 h2 => le_spec n 4 h1 h2 ((w.alloc (.cells (sizC ⟨big, far, fl⟩) 145)).alloc (.cells (chkC c) 55))
  cases hq : c.id.toList == far.toList
  · have HN : Hid (toldN ⟨big, far, fl⟩ c = (c.body.size : Int)) := by show _ = _; unfold toldN; rw [hq]; rfl
    cases big
    · have HT : Hid (toldT ⟨false, far, fl⟩ c = leT (c.body.size : Int) 4) := by show toldT _ _ = _; unfold toldT; rw [HN.out]; exact toT_false _
      have k := kl (c.body.size : Int) (by omega) (by omega)
      generalize leT (c.body.size : Int) 4 = TT at *
      generalize wE (c.body.size : Int) 4 = EE at *
      clear kb kl
      go_enter Tryz.func117, Tryz.ntmps117
      go_wp2_with fail
      refine k.mono ?_
      rintro e w2 ⟨rfl, hB2⟩
      have HB2 : Hid (Below w.heap.size w w2) := HB.out.trans (hB2.mono HB.out.size)
      clear k hB2
      go_wp2_with fail
      go_ret
      exact ⟨by rw [HT.out]; rfl, HB2.out⟩
    · have HT : Hid (toldT ⟨true, far, fl⟩ c = beT (c.body.size : Int) 4) := by show toldT _ _ = _; unfold toldT; rw [HN.out]; exact toT_true _
      have k := kb (c.body.size : Int) (by omega) (by omega)
      generalize beT (c.body.size : Int) 4 = TT at *
      generalize wE (c.body.size : Int) 4 = EE at *
      clear kb kl
      go_enter Tryz.func117, Tryz.ntmps117
      go_wp2_with fail
      refine k.mono ?_
      rintro e w2 ⟨rfl, hB2⟩
      have HB2 : Hid (Below w.heap.size w w2) := HB.out.trans (hB2.mono HB.out.size)
      clear k hB2
      go_wp2_with fail
      go_ret
      exact ⟨by rw [HT.out]; rfl, HB2.out⟩
  · have HN : Hid (toldN ⟨big, far, fl⟩ c = 4294967295) := by show _ = _; unfold toldN; rw [hq]; rfl
    cases big
    · have HT : Hid (toldT ⟨false, far, fl⟩ c = leT 4294967295 4) := by show toldT _ _ = _; unfold toldT; rw [HN.out]; exact toT_false _
      have k := kl 4294967295 (by decide) (by decide)
      generalize leT 4294967295 4 = TT at *
      generalize wE 4294967295 4 = EE at *
      clear kb kl
      go_enter Tryz.func117, Tryz.ntmps117
      go_wp2_with fail
      refine k.mono ?_
      rintro e w2 ⟨rfl, hB2⟩
      have HB2 : Hid (Below w.heap.size w w2) := HB.out.trans (hB2.mono HB.out.size)
      clear k hB2
      go_wp2_with fail
      go_ret
      exact ⟨by rw [HT.out]; rfl, HB2.out⟩
    · have HT : Hid (toldT ⟨true, far, fl⟩ c = beT 4294967295 4) := by show toldT _ _ = _; unfold toldT; rw [HN.out]; exact toT_true _
      have k := kb 4294967295 (by decide) (by decide)
      generalize beT 4294967295 4 = TT at *
      generalize wE 4294967295 4 = EE at *
      clear kb kl
      go_enter Tryz.func117, Tryz.ntmps117
      go_wp2_with fail
      refine k.mono ?_
      rintro e w2 ⟨rfl, hB2⟩
      have HB2 : Hid (Below w.heap.size w w2) := HB.out.trans (hB2.mono HB.out.size)
      clear k hB2
      go_wp2_with fail
      go_ret
      exact ⟨by rw [HT.out]; rfl, HB2.out⟩

end Go.Proofs.YtaepgjheknkojaaGreat

namespace Go.Proofs.YtaepgjheknkojaaGreat
open Go.RowKit
set_option linter.unusedSimpArgs false
set_option linter.unusedVariables false

open Go.Shelf
def shelfRen6 : Go.Shelf.Ren := ⟨fun | 165 => 58 | 166 => 62 | 167 => 119 | 169 => 64 | 240 => 90 | 241 => 91 | 276 => 110 | 277 => 111 | n => n, fun | 0 => 0 | 3 => 3 | 4 => 4 | 5 => 5 | 9 => 9 | 20 => 20 | 37 => 107 | 70 => 106 | 72 => 109 | 164 => 158 | 75 => 114 | 80 => 82 | 127 => 143 | n => n, fun | n => n⟩
theorem lays167 : Go.Proofs.Lays.n167 Tryz.prog shelfRen6 := {
  mixed := by kernel_rfl
  f167 := Tryz.func119.trans (congrArg some (by kernel_rfl))
  f240 := Tryz.func90.trans (congrArg some (by kernel_rfl))
  f276 := Tryz.func110.trans (congrArg some (by kernel_rfl))
  t0 := Tryz.underlying0
  a0 := Tryz.isAgg0
  z0 := Tryz.sizeOf0
  v0 := Tryz.zeroValue0
  t4 := Tryz.underlying4
  a4 := Tryz.isAgg4
  z4 := Tryz.sizeOf4
  v4 := Tryz.zeroValue4
  t5 := Tryz.underlying5
  a5 := Tryz.isAgg5
  z5 := Tryz.sizeOf5
  v5 := Tryz.zeroValue5
  t9 := Tryz.underlying9
  a9 := Tryz.isAgg9
  z9 := Tryz.sizeOf9
  v9 := Tryz.zeroValue9
  t20 := Tryz.underlying20
  a20 := Tryz.isAgg20
  z20 := Tryz.sizeOf20
  v20 := Tryz.zeroValue20
  t37 := Tryz.underlying107
  a37 := Tryz.isAgg107
  z37 := Tryz.sizeOf107
  v37 := Tryz.zeroValue107
  t70 := Tryz.underlying106
  a70 := Tryz.isAgg106
  z70 := Tryz.sizeOf106
  v70 := Tryz.zeroValue106
  t72 := Tryz.underlying109
  a72 := Tryz.isAgg109
  z72 := Tryz.sizeOf109
  v72 := Tryz.zeroValue109
  t75 := Tryz.underlying114
  a75 := Tryz.isAgg114
  z75 := Tryz.sizeOf114
  v75 := Tryz.zeroValue114
  t164 := Tryz.underlying158
  a164 := Tryz.isAgg158
  z164 := Tryz.sizeOf158
  v164 := Tryz.zeroValue158 }
theorem shelfExtra6 : Go.Proofs.Builder.Extra Tryz.prog shelfRen6 := {
  sizeBuilder := by kernel_rfl
  liesBuilder := by kernel_rfl
  t5 := Tryz.underlying5
  a5 := Tryz.isAgg5
  z5 := Tryz.sizeOf5
  v5 := Tryz.zeroValue5
  infoByte := by kernel_rfl
  cellsByte := by kernel_rfl
  sizeByte := by kernel_rfl
  neB5 := by decide }
theorem writeByte_spec (B b : Nat) (bs : List Value) (c : Int) (w : World) (h : Lib.IsBuilder 109 5 B b bs w) (hlen : bs.length + 1 ≤ 140737488355328) (hBw : B ≤ w.heap.size) :
    Calls Tryz.prog 119 #[.pointer (some ⟨b, 0, none⟩), .int .u8 c] w fun e w' => e = .returned .nilIface ∧ (Lib.BuilderAt 109 5 B b (.pointer (some ⟨b, 0, none⟩)) (bs ++ [.int .u8 c]) w' ∧ Below B w w') := Go.Proofs.Any.Builder_WriteByte lays167 shelfExtra6 B b bs c w h hlen hBw

end Go.Proofs.YtaepgjheknkojaaGreat

namespace Go.Proofs.YtaepgjheknkojaaGreat
open Go.RowKit
set_option linter.unusedSimpArgs false
set_option linter.unusedVariables false

theorem writeK (B b : Nat) (bs : List Value) (s : ByteArray) (w : World) (h : Lib.IsBuilderF 109 5 B b bs w) (hlen : bs.length + s.size ≤ 140737488355328) (hBw : B ≤ w.heap.size) :
    Calls Tryz.prog 62 #[.pointer (some ⟨b, 0, none⟩), .string s] w fun e w' => e = .returned (.tuple #[.int .i64 s.size, .nilIface]) ∧ (Lib.BuilderAtF 109 5 B b (.pointer (some ⟨b, 0, none⟩)) (bs ++ Lib.strCells s) w' ∧ Below B w w' ∧ Lib.OthersKept 5 (some b) w w') := Go.Proofs.Any.Builder_WriteString_k lays166 shelfExtra B b bs s w h hlen hBw
theorem byteK (B b : Nat) (bs : List Value) (c : Int) (w : World) (h : Lib.IsBuilderF 109 5 B b bs w) (hlen : bs.length + 1 ≤ 140737488355328) (hBw : B ≤ w.heap.size) :
    Calls Tryz.prog 119 #[.pointer (some ⟨b, 0, none⟩), .int .u8 c] w fun e w' => e = .returned .nilIface ∧ (Lib.BuilderAtF 109 5 B b (.pointer (some ⟨b, 0, none⟩)) (bs ++ [.int .u8 c]) w' ∧ Below B w w' ∧ Lib.OthersKept 5 (some b) w w') := Go.Proofs.Any.Builder_WriteByte_k lays167 shelfExtra6 B b bs c w h hlen hBw
theorem stringK (B b : Nat) (l : List UInt8) (w : World) (h : Lib.IsBuilderF 109 5 B b (Lib.byteCells l) w) (hBw : B ≤ w.heap.size) :
    Calls Tryz.prog 64 #[.pointer (some ⟨b, 0, none⟩)] w fun e w' => e = .returned (.string ⟨l.toArray⟩) ∧ (Lib.IsBuilderF 109 5 B b (Lib.byteCells l) w' ∧ Below B w w' ∧ Lib.OthersKept 5 (some b) w w') := Go.Proofs.Any.Builder_String_any_k lays169 shelfExtra B b l w h hBw

def chunkL (z : Siz) (c : Chk) : List Nat := bytesOf c.id ++ bytesOf (toldT z c) ++ bytesOf c.body ++ (if hasPadB c then [c.pad.toNat] else [])
def layZ (z : Siz) (l : List Chk) : List Nat := l.flatMap (chunkL z)
theorem layZ_take (z : Siz) (l : List Chk) (k : Nat) (c : Chk) (h : l[k]? = some c) : layZ z (l.take (k + 1)) = layZ z (l.take k) ++ chunkL z c := by
  obtain ⟨hi, rfl⟩ := List.getElem?_eq_some_iff.1 h
  unfold layZ
  rw [List.take_succ_eq_append_getElem hi, List.flatMap_append]
  simp
theorem toT_size (n : Int) (big : Bool) : (toT n big).size ≤ 4 := by
  have h1 : (beT n 4).size ≤ 4 := by
    unfold beT
    split
    · rw [textOf_size, highL_length]
      decide
    · exact Nat.zero_le _
  have h2 : (leT n 4).size ≤ 4 := by
    unfold leT
    split
    · rw [textOf_size, lowL_length]
      decide
    · exact Nat.zero_le _
  unfold toT
  split
  · exact h1
  · exact h2
theorem idB_size (s : ByteArray) (h : idB s = true) : s.size = 4 := by
  unfold idB at h
  exact of_decide_eq_true (Bool.and_eq_true_iff.1 h).2
theorem chunkL_len (z : Siz) (c : Chk) (h : idB c.id = true) : (chunkL z c).length ≤ sizeC c := by
  unfold chunkL sizeC toldT
  have h1 := toT_size (toldN z c) z.big
  have h2 := idB_size _ h
  simp only [List.length_append, bytesOf_length]
  split <;> simp <;> omega
theorem layZ_len (z : Siz) (l : List Chk) (h : ∀ c ∈ l, idB c.id = true) : (layZ z l).length ≤ sizeL l := by
  unfold layZ sizeL
  induction l with
  | nil => simp
  | cons c t ih =>
    have h1 := chunkL_len z c (h c (List.mem_cons_self ..))
    have h2 := ih fun d hd => h d (List.mem_cons_of_mem _ hd)
    simp only [List.flatMap_cons, List.length_append, List.map_cons, List.sum_cons]
    omega
/-- lay's builder, and the sizes' box. -/
structure Wl (w0 : World) (z : Siz) (l : List Nat) (w : World) : Prop where
  zb : w.heap[w0.heap.size]? = some (.cells (sizC z) 145 (0, 0))
  bd : Lib.BuilderAtF 109 5 (w0.heap.size + 1) (w0.heap.size + 1) (.pointer (some ⟨w0.heap.size + 1, 0, none⟩)) (Lib.strCells (textOf l)) w
  below : Below w0.heap.size w0 w
section
variable {w0 w w' : World} {z : Siz} {l : List Nat}
theorem lt_of_block0 {w : World} {g : Nat} {o : Obj} (h : w.heap[g]? = some o) : g < w.heap.size := (Array.getElem?_eq_some_iff.1 h).1
theorem bf_lt {T e : TypeId} {B b : Nat} {p : Value} {bs : List Value} (h : Lib.BuilderAtF T e B b p bs w) : b < w.heap.size := by
  obtain ⟨_, v, h2, _⟩ := h
  exact lt_of_block h2
theorem bf_below {T e : TypeId} {B b : Nat} {p : Value} {bs : List Value} (h : Lib.BuilderAtF T e B b p bs w) (hB : Below w.heap.size w w') : Lib.BuilderAtF T e B b p bs w' := by
  obtain ⟨h1, v, h2, h3, h4⟩ := h
  refine ⟨h1, v, by rw [hB.block _ (lt_of_block h2)]; exact h2, ?_, h4⟩
  obtain ⟨h5, h6⟩ := h3
  refine ⟨h5, ?_⟩
  rcases h6 with h6 | ⟨g, cap, cur, fz, e1, e2, e3, e4⟩
  · exact Or.inl h6
  · exact Or.inr ⟨g, cap, cur, fz, e1, e2, (hB.block _ (lt_of_block0 e3)).trans e3, e4⟩
theorem Wl.next (h : Wl w0 z l w) (hB : Below w.heap.size w w') : Wl w0 z l w' :=
  ⟨by rw [hB.block _ (lt_of_block h.zb)]; exact h.zb, bf_below h.bd hB, h.below.trans (hB.mono h.below.size)⟩
theorem Wl.s (h : Wl w0 z l w) (j : Nat) (v : Value) (hv : (sizC z)[j]? = some v) : w.cell? ⟨w0.heap.size, j, none⟩ = some v := by rw [cell_of_row _ _ _ _ _ _ h.zb]; exact hv
theorem Wl.into (h : Wl w0 z l w) {m : List Nat} (hb : Lib.BuilderAtF 109 5 (w0.heap.size + 1) (w0.heap.size + 1) (.pointer (some ⟨w0.heap.size + 1, 0, none⟩)) (Lib.strCells (textOf m)) w') (hB : Below (w0.heap.size + 1) w w') : Wl w0 z m w' :=
  ⟨by rw [hB.block _ (Nat.lt_succ_self _)]; exact h.zb, hb, h.below.trans (hB.mono (Nat.le_succ _))⟩
theorem Wl.write (h : Wl w0 z l w) (s : ByteArray) (hl : l.length + s.size ≤ 140737488355328) :
    Calls Tryz.prog 62 #[.pointer (some ⟨w0.heap.size + 1, 0, none⟩), .string s] w fun e w' => e = .returned (.tuple #[.int .i64 s.size, .nilIface]) ∧ Hid (Wl w0 z (l ++ bytesOf s) w') ∧ Lib.OthersKept 5 (some (w0.heap.size + 1)) w w' := by
  refine (writeK _ _ _ s w (Or.inr h.bd) (by rw [strCells_len]; exact hl) (Nat.le_of_lt (bf_lt h.bd))).mono ?_
  rintro e w' ⟨rfl, h1, h2, h3⟩
  refine ⟨rfl, h.into (m := l ++ bytesOf s) ?_ h2, h3⟩
  rw [strCells_app, textOf_bytesOf]
  exact h1
theorem Wl.byte (h : Wl w0 z l w) (n : Nat) (hn : n < 256) (hl : l.length + 1 ≤ 140737488355328) :
    Calls Tryz.prog 119 #[.pointer (some ⟨w0.heap.size + 1, 0, none⟩), .int .u8 (n : Int)] w fun e w' => e = .returned .nilIface ∧ Hid (Wl w0 z (l ++ [n]) w') ∧ Lib.OthersKept 5 (some (w0.heap.size + 1)) w w' := by
  refine (byteK _ _ _ (n : Int) w (Or.inr h.bd) (by rw [strCells_len]; exact hl) (Nat.le_of_lt (bf_lt h.bd))).mono ?_
  rintro e w' ⟨rfl, h1, h2, h3⟩
  refine ⟨rfl, h.into (m := l ++ [n]) ?_ h2, h3⟩
  rw [strCells_app]
  have : Lib.strCells (textOf [n]) = [.int .u8 (n : Int)] := by
    rw [strCells_bytes, bytesOf_textOf [n] (by simp; exact hn)]
    rfl
  rw [this]
  exact h1
theorem Wl.string (h : Wl w0 z l w) : Calls Tryz.prog 64 #[.pointer (some ⟨w0.heap.size + 1, 0, none⟩)] w fun e w' => e = .returned (.string (textOf l)) ∧ Below w0.heap.size w0 w' := by
  have hs : Lib.strCells (textOf l) = Lib.byteCells (l.map fun b => UInt8.ofNat b) := by
    unfold Lib.strCells Lib.byteCells textOf
    simp
  have hb := h.bd
  rw [hs] at hb
  refine (stringK _ _ _ w (Or.inr hb) (Nat.le_of_lt (bf_lt h.bd))).mono ?_
  rintro e w' ⟨rfl, _, h2, _⟩
  exact ⟨rfl, h.below.trans (h2.mono (Nat.le_succ _))⟩
end

end Go.Proofs.YtaepgjheknkojaaGreat
