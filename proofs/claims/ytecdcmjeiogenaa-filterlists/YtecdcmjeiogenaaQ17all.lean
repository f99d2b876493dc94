/- Own text: the program's package filter does what it must. -/
import Derived.Test.YtecdcmjeiogenaaQ17lst
import Derived.Test.YtecdcmjeiogenaaQ17unm
namespace Go.Proofs.Ytecdcmjeiogenaa
open Go.RowKit
set_option linter.unusedSimpArgs false
set_option linter.unusedVariables false

theorem does17 : Does17 VCh where
  fwd := fun level l lo lc w h hc => p_list_cf level l lo lc w h hc
  inv := fun level l lo lc w h hc => p_list_ci level l lo lc w h hc
  mid := fun a b aa ba ac bc w ha hb _ _ => p_mid a b aa ba ac bc w ha hb
  unmid := fun a b aa ba ac bc w ha hb _ _ => p_unmid a b aa ba ac bc w ha hb
  nonew := fun level w h => p_new_no level h w
  new := fun level c w h => p_new level c w h
  keep := by
    rintro w w' p fp c ⟨pc, ao, cap, Q, e, h⟩ hz hk
    exact ⟨pc, ao, cap, Q, e, h.keep hk (fun _ q => q)⟩
  cf := by
    rintro x w p fp c ⟨pc, ao, cap, Q, rfl, h⟩
    refine (p_cf h x).mono ?_
    rintro e w' ⟨he, h1, h2⟩
    exact ⟨he, ⟨pc, ao, cap, Q, rfl, h1⟩, h2⟩
  ci := by
    rintro x w p fp c ⟨pc, ao, cap, Q, rfl, h⟩
    refine (p_ci h x).mono ?_
    rintro e w' ⟨he, h1, h2⟩
    exact ⟨he, ⟨pc, ao, cap, Q, rfl, h1⟩, h2⟩
  nf := by
    intro x w
    refine (p_cf_nil x w).mono ?_
    rintro e w' ⟨he, rfl⟩
    exact ⟨he, Below.refl _ _⟩
  ni := by
    intro x w
    refine (p_ci_nil x w).mono ?_
    rintro e w' ⟨he, rfl⟩
    exact ⟨he, Below.refl _ _⟩

end Go.Proofs.Ytecdcmjeiogenaa
