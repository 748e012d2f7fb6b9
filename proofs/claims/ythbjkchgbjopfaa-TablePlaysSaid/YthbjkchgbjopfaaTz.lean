/- Stage 13: the landed table, one that is not there or was not made among them. -/
import Derived.Test.YthbjkchgbjopfaaLt
import Derived.Test.YthbjkchgbjopfaaTj
namespace Go.Proofs.Ythbjkchgbjopfaa
set_option maxRecDepth 100000
open Go.RowKit Go.Shelf
theorem unm_non {pa : Option Addr} {w : World} (h : Unm pa w) : NonT g0 pa w where
  put := fun W hb y x => tput_un (fun V hV => tmade_un (unm_step (unm_step h hb) hV)) y x
  find := fun W hb y fid cap => tfind_un (fun V hV => tmade_un (unm_step (unm_step h hb) hV)) y fid cap
  get := fun W hb i => tget_out fun V hV => thas_un (unm_step (unm_step h hb) hV) i
  drop := fun W hb i => tdrop_un (tmade_un (unm_step h hb)) i
  places := fun W hb => tplacesu (unm_step h hb)
  entries := fun W hb => tentries_c (tcountu_1 (unm_step h hb))
  marks := fun W hb => tmarks_c (tcountu_2 (unm_step h hb))
  copy := fun W hb => tcopy_un (tmade_un (unm_step h hb))
  all := fun W hb => by
    refine (all_any W pa).mono ?_
    rintro e w' ⟨rfl, rfl⟩
    exact ⟨_, rfl, below_alloc W _⟩
theorem non_nil (w : World) : NonT g0 none w := unm_non (.inl rfl)
theorem non_zero (w : World) (b : Nat) (h : w.heap[b]? = some (.cells #[.slice none 0 0, .int .i64 0, .int .i64 0, .int .i64 0] 57 (0, 0))) : NonT g0 (some ⟨b, 0, none⟩) w := unm_non (.inr ⟨b, rfl, blk_cell h 0⟩)
theorem find_nil {w : World} {p : Nat} {s : Tb} {F : Nat → Prop} (h : PT0 w p s F) (hs : s.Ok) (y : Nat) (hy : y < 18446744073709551616) : Calls Try.prog 27 #[.pointer (some ⟨p, 0, none⟩), .int .u64 (y : Int), .nilFunc] w (ret (.tuple #[.int .i64 0, .bool false]) w) := tfind_nil0 h hs y hy
end Go.Proofs.Ythbjkchgbjopfaa
