/- Stage 13: the landed table is one that the laws speak of. -/
import Derived.Test.YthbjkchgbjopfaaLtk
namespace Go.Proofs.Ythbjkchgbjopfaa
set_option maxRecDepth 100000
open Go.RowKit Go.Shelf
def g0 : Nat := 42
theorem tabP : TabP PT0 g0 where
  foot := footPT0
  eg := all_eg
  new_no := fun n w h => tnew_no h w
  new := fun n w h => tnew_yes h w
  put := fun h hs y x hy hx => by
    obtain ⟨g, c, e, h⟩ := h
    refine (tput_any h hs y x hy).mono ?_
    rintro r w' ⟨rfl, ⟨e', h1⟩, h2⟩
    exact ⟨rfl, _, ⟨g, c, e', h1⟩, ⟨fun k q => .inl q, h2⟩⟩
  drop := fun h hs q => by
    obtain ⟨g, c, e, h⟩ := h
    refine (tdrop_any h hs q).mono ?_
    rintro r w' ⟨rfl, ⟨e', h1⟩, h2⟩
    exact ⟨rfl, _, ⟨g, c, e', h1⟩, ⟨fun k q => .inl q, h2⟩⟩
  find := fun h hs y hy fid cap ans J HA hR hJ => by
    obtain ⟨g, c, e, h⟩ := h
    exact tfind_any h hs y hy fid cap ans _ J HA hR hJ
  get := fun h _ q => by
    obtain ⟨g, c, e, h⟩ := h
    exact tget_any h q
  places := fun h _ => by
    obtain ⟨g, c, e, h⟩ := h
    exact tplaces h
  entries := fun h _ => by
    obtain ⟨g, c, e, h⟩ := h
    exact tentries_c (tcount_1 h)
  marks := fun h _ => by
    obtain ⟨g, c, e, h⟩ := h
    exact tmarks_c (tcount_2 h)
  copy := fun h _ => by
    obtain ⟨g, c, e, h⟩ := h
    refine (tcopy_c h fun k _ => tcl_one _ k).mono ?_
    rintro r w' ⟨b, g2, c2, rfl, h1, h2, h3, h4⟩
    refine ⟨b, _, rfl, ⟨g2, c2, e, h1⟩, fun k q => ?_, h4⟩
    rcases q with rfl | rfl
    · exact h2
    · exact h3
  all := fun h _ => by
    obtain ⟨g, c, e, h⟩ := h
    exact tall_any h
/-- What a table that is not there, or was not made, answers. -/
theorem unm_step {pa : Option Addr} {w W : World} (h : Unm pa w) (hb : Below w.heap.size w W) : Unm pa W := by
  rcases h with rfl | ⟨p, rfl, h⟩
  · exact .inl rfl
  · obtain ⟨cs, t, fr, hq⟩ := cells_of_cell h
    exact .inr ⟨p, rfl, (kept_cell_block (hb.block p (lt_heap' hq))).trans h⟩
theorem tfind_nil0 {w : World} {p : Nat} {s : Tb} {F : Nat → Prop} (h : PT0 w p s F) (hs : s.Ok) (y : Nat) (hy : y < 18446744073709551616) : Calls Try.prog 27 #[.pointer (some ⟨p, 0, none⟩), .int .u64 (y : Int), .nilFunc] w (ret (.tuple #[.int .i64 0, .bool false]) w) := by
  obtain ⟨g, c, e, h⟩ := h
  exact tfind_nil h hs y hy
end Go.Proofs.Ythbjkchgbjopfaa
