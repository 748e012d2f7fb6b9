/- Any string, as bytes. -/
import Derived.Test.YtfchmmojhfjibaaGrow
import Derived.Test.YtfchmmojhfjibaaBlk
import Derived.Test.YtfchmmojhfjibaaRows
import Derived.KernelRfl
import Derived.Laws.StructEq
import Derived.Test.YtfchmmojhfjibaaBytes
import Derived.Laws.BitsAllLaws
import Derived.Deep.RegionHeld3
import Derived.Deep.MidRow
import Derived.Deep.CutRange
import Derived.StillTailTactics
import Derived.WalkLawsBesides
import Derived.IntWalk
import Derived.BigQuiet
import Derived.Laws.CopyOwn
import Derived.Laws.Tables
import Derived.Laws.IdiomCopy
import Derived.Laws.BytesArg
namespace Go.Proofs.Ytfchmmojhfjibaa
set_option maxRecDepth 100000
open Go.RowKit
def strF (S : ByteArray) (k : Nat) : Int := ((S.data[k]?.getD 0).toNat : Int)
theorem strF_byt (S : ByteArray) : Byt (strF S) := fun k => by
  have := (S.data[k]?.getD 0).toNat_lt
  unfold strF
  omega
theorem strF_eq (S : ByteArray) : strOfNums (nums S.size (strF S)) = S := by
  have hl : (nums S.size (strF S)).length = S.size := nums_len _ _
  have h : (strOfNums (nums S.size (strF S))).data = S.data := by
    refine Array.ext ?_ fun i h1 h2 => ?_
    · show (strOfNums (nums S.size (strF S))).size = S.size
      rw [strOfNums_size, hl]
    · have h3 : (strOfNums (nums S.size (strF S))).data[i]? = S.data[i]? := by
        unfold strOfNums
        simp only [List.getElem?_toArray, List.getElem?_map]
        unfold nums
        rw [List.getElem?_map, List.getElem?_range (show i < S.size from h2)]
        simp only [Option.map_some]
        rw [Array.getElem?_eq_getElem h2]
        unfold strF
        rw [Array.getElem?_eq_getElem h2, Option.getD_some, Int.toNat_natCast, UInt8.ofNat_toNat]
      rw [Array.getElem?_eq_getElem h1, Array.getElem?_eq_getElem h2] at h3
      injection h3
  cases S
  cases hq : strOfNums (nums _ _)
  rw [hq] at h
  exact congrArg ByteArray.mk h
end Go.Proofs.Ytfchmmojhfjibaa
