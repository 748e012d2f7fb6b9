import Derived.Test.YtimcdnbfdkpffaaGreatGm4
import Derived.Test.YtimcdnbfdkpffaaGreatGm2
import Derived.Test.YtimcdnbfdkpffaaGreatGm5
import Derived.Lib.SlBytesConst
/- Stage 12: the document's bytes of a tuple. -/
namespace Go.Proofs.YtimcdnbfdkpffaaGreat
set_option maxRecDepth 100000
open Go.RowKit Go.Shelf
theorem app_four (v6 : Bool) (pr : Int) (s d : Nat → Int) (sp dp : Int) : ∀ j, j < 2 + alen v6 + alen v6 + 4 → tupB v6 pr s d sp dp j = cat (2 + alen v6 + alen v6) (tupB v6 pr s d sp dp) (four (sp / 256) (sp % 256) (dp / 256) (dp % 256)) j := fun j hj => by
  obtain ⟨h0, h1, h2, h3⟩ := tupB_end (v6 := v6) (pr := pr) (s := s) (d := d) (sp := sp) (dp := dp)
  unfold cat
  split
  · rfl
  · obtain ⟨i, hi⟩ : ∃ i, j = 2 + 2 * alen v6 + i := ⟨j - (2 + 2 * alen v6), by omega⟩
    have hi4 : i < 4 := by omega
    rw [show j - (2 + alen v6 + alen v6) = i by omega, hi]
    match i, hi4 with
    | 0, _ => exact h0
    | 1, _ => exact h1
    | 2, _ => exact h2
    | 3, _ => exact h3
end Go.Proofs.YtimcdnbfdkpffaaGreat
