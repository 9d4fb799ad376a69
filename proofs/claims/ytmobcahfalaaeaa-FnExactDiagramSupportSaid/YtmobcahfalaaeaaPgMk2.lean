/-
  Marking: procedures, statements and whole programs. (Written by gen_pgmk.py.)
-/
import Derived.Test.YtmobcahfalaaeaaPgMk1
namespace Go.Proofs.Ytmobcahfalaaeaa
open Go.RowKit Num

end Go.Proofs.Ytmobcahfalaaeaa
