/-
  The developers' calls of overlay: the five contracts.
-/
import Derived.Test.YtipgphdndleodaaODover
import Derived.Test.YtipgphdndleodaaODon
import Derived.Test.YtipgphdndleodaaODsame
namespace Go.Proofs.Ytipgphdndleodaa
set_option maxRecDepth 100000

theorem calls8 : Calls8 where
  put := fun l y A c w h hy => put_dev l y A c w h hy
  get := fun l k A c w h _ => get_dev l k A c w h
  on := fun h l A c w hl hh => on_dev h l A c w hl hh
  over := fun a b A B c d w ha hb => over_dev a b A B c d w ha hb
  same := fun a b A B c d w ha hb => same8_dev a b A B c d w ha hb
end Go.Proofs.Ytipgphdndleodaa
