/- Own text: the program's calls of package page do what they must. -/
import Derived.Test.YtjkamannjgcmiaaDoorQ15does
import Derived.Test.YtjkamannjgcmiaaDoorG39x
import Derived.Test.YtjkamannjgcmiaaDoorQ15la
namespace Go.Proofs.YtjkamannjgcmiaaDoor
open Go.RowKit
set_option linter.unusedSimpArgs false
set_option linter.unusedVariables false

theorem does15 : Does15 S3.RulesAt where
  keep := fun w w' h hb => h.below hb
  prs := fun s hs w hL => j_Parse s hs w hL
  bld := fun l pk a b c d w hL h1 h2 h3 h4 h5 h6 h7 h8 => j_Build l pk a b c d w hL h1 h2 h3 h4 h5 h6 h7 h8
  pkt := fun l a c w h1 h2 h3 => j_Packets l a c w h1 h2 h3
  lac := fun l a c mo w h1 h2 h3 h4 => j_Lace l a c mo w h1 h2 h3 h4

end Go.Proofs.YtjkamannjgcmiaaDoor
