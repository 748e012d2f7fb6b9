/- Stage 19: the landed Order's sort, by lists. -/
import Derived.Test.YtfchmmojhfjibaaSyg
namespace Go.Proofs.Ytfchmmojhfjibaa
set_option maxRecDepth 100000
open Go.RowKit Go.Shelf
/-- The row behind the sort. -/
def SrtQ (l : List Wt) (w : World) (base gb d : Nat) (D : List Nat) : Ending → World → Prop := fun e w' => e = .returned (.tuple #[]) ∧ ∃ D' : List Nat, D'.length = D.length ∧ D'.Pairwise (lti l) ∧ (∀ x, x ∈ D' ↔ x ∈ D) ∧
  OwnC w' base 3 1 (some ⟨gb, 0, none⟩) D.length d (oV D') ∧ Below gb w w'
open Go.Sort (Holds putRow putCells mapBlock onCells grow) in
theorem osort0 {l : List Wt} {w : World} {b lb lo c gb base d : Nat} (hb : w.heap[b]? = some (.cells #[.slice (some ⟨lb, lo, none⟩) l.length c] 22 (0, 0))) (hbl : b < w.heap.size) (hc : ∀ j, j < l.length → w.cell? ⟨lb, lo + j * 2, none⟩ = some (.string (wa l j).s)) (hll : lb < w.heap.size) {D : List Nat} (hD : ∀ x, x ∈ D → x < l.length) (hord : D.Pairwise (· < ·)) (hlen : D.length ≤ 30) (h0 : D ≠ [])
    (ho : OwnC w base 3 1 (some ⟨gb, 0, none⟩) D.length d (oV D)) (hgb : gb ≠ b) (hgl : gb ≠ lb) (hglt : gb < w.heap.size) :
    Calls Try.prog 36 #[.slice (some ⟨gb, 0, none⟩) D.length d, .int .i64 (D.length : Int), .func (.func 24) #[] #[.pointer (some ⟨b, 0, none⟩)]] w (SrtQ l w base gb d D) := by
  obtain ⟨N, hN⟩ : ∃ N, l.length = N + 1 := by
    rcases D with _ | ⟨a, D⟩
    · exact absurd rfl h0
    · have := hD a (.head _)
      exact ⟨l.length - 1, by omega⟩
  let cf : Fin (N + 1) → Fin (N + 1) → Int := fun x y => cmpB (wa l x.val).s (wa l y.val).s
  let Rl : Fin (N + 1) → Fin (N + 1) → Prop := fun x y => lti l x.val y.val
  have hlt : ∀ x y, ltOf cf x y = ltB (wa l x.val).s (wa l y.val).s := fun x y => by
    show decide (cmpB (wa l x.val).s (wa l y.val).s < 0) = _
    rw [Bool.eq_iff_iff, decide_eq_true_eq]
    exact cmpB_lt _ _
  let dl : List (Fin (N + 1)) := D.pmap (fun x hx => ⟨x, hx⟩) (fun x hx => by have := hD x hx; omega)
  have hdl : dl.length = D.length := List.length_pmap ..
  have hdm : dl.map (fun x => x.val) = D := by
    show (D.pmap _ _).map _ = D
    rw [List.map_pmap]
    simp
  have hds : dl.toArray.size = D.length := hdl
  have eg : ∀ args W, (callFunc 24 args).run Try.prog W = .ok (.enter 24 args) W := enters_of Try.func24 (by kernel_rfl) rfl
  have hcmp : CmpReads Try.prog 24 #[.pointer (some ⟨b, 0, none⟩)] eN cf gb 0 dl.toArray.size w := fun m os dk hs x y => by
    refine porder1 _ b lb lo l.length c l ?_ (fun j hj => ?_) x.val y.val (by have := x.isLt; omega) (by have := y.isLt; omega)
    · exact blk_cell ((kept_srt eN w gb m dk os b hbl (fun e => hgb e.symm)).trans hb) 0
    · rw [← hc j hj]
      have hk := kept_srt eN w gb m dk os lb hll (fun e => hgl e.symm)
      unfold World.cell?
      rw [hk]
  have hget : ∀ k, k < D.length → ∃ h : k < dl.length, dl.toArray[k]! = dl[k] ∧ (dl[k]).val = oa D k := fun k hk => by
    have hk2 : k < dl.length := by rw [hdl]; exact hk
    refine ⟨hk2, by rw [getElem!_pos dl.toArray k (by simpa using hk2)]; rfl, ?_⟩
    have e2 : D[k]? = some (dl[k]).val := by
      rw [← hdm, List.getElem?_map, List.getElem?_eq_getElem hk2]
      rfl
    unfold oa
    rw [e2]
    rfl
  have hH : Holds eN w gb 0 dl.toArray := fun j hj => by
    have hj' : j < D.length := by rw [← hds]; exact hj
    obtain ⟨h1, h2, h3⟩ := hget j hj'
    rw [h2, Nat.zero_add]
    obtain ⟨g', e, _, _, hc, hf⟩ := ho.lies (by omega)
    injection e with e
    injection e with e
    subst e
    refine ⟨?_, hf j⟩
    rw [hc j (by omega)]
    unfold oV eN
    rw [h3]
  have hR : Row1 eN w gb 0 dl.toArray := ⟨eN_one, hH, hglt⟩
  have hlat : Lat (ltOf cf) Rl dl.toArray D.length := fun i j q1 q2 => by
    obtain ⟨a1, a2, a3⟩ := hget i (by omega)
    obtain ⟨b1, b2, b3⟩ := hget j q2
    rw [a2, b2, hlt]
    show (_ → lti l _ _) ∧ (_ → lti l _ _)
    rw [a3, b3]
    have hij : oa D i < oa D j := by
      rw [oa_at (by omega), oa_at q2]
      exact List.pairwise_iff_getElem.1 hord i j (by omega) q2 q1
    refine ⟨fun q => .inl q, fun q => ?_⟩
    rcases ltB_tri (wa l (oa D i)).s (wa l (oa D j)).s with r | r | r
    · exact .inl r
    · exact .inr ⟨r, hij⟩
    · rw [r] at q
      cases q
  have hcon := stab_any cf Rl (fun x y z => lti_trans) gb 0 d dl.toArray w 24 #[.pointer (some ⟨b, 0, none⟩)] eg hcmp.lays hR D.length hds hlen hlat
  refine Calls.mono hcon ?_
  intro e w' hq
  obtain ⟨rfl, d', hseg, hsd, m, os, rfl⟩ := hq
  have hsz : d'.size = D.length := hseg.size.trans hds
  have hat : ∀ (k : Nat) (hk : k < D.length), (d'.toList.map (fun x => x.val))[k]? = some (d'[k]!).val := fun k hk => by
    rw [List.getElem?_map, getElem!_pos d' k (by omega), List.getElem?_eq_getElem (by simpa using (by omega : k < d'.size))]
    rfl
  refine ⟨rfl, d'.toList.map (fun x => x.val), by simpa using hsz, ?_, fun x => ?_, ?_, rfl, rfl, rfl, ?_, fun k hk => kept_srt eN w gb m d' os k (Nat.lt_trans hk hglt) (Nat.ne_of_lt hk)⟩
  · rw [List.pairwise_map, List.pairwise_iff_getElem]
    intro i j hi hj hij
    have hi' : i < d'.size := by simpa using hi
    have hj' : j < d'.size := by simpa using hj
    have := hsd i j (Nat.zero_le _) hij (by omega)
    rw [getElem!_pos d' i hi', getElem!_pos d' j hj'] at this
    simpa using this
  · constructor
    · intro hx
      obtain ⟨y, hy, rfl⟩ := List.mem_map.1 hx
      obtain ⟨k, hk, e⟩ := List.getElem_of_mem hy
      have hk' : k < d'.size := by simpa using hk
      obtain ⟨k2, _, q2, e2⟩ := (hseg.mem y).1 ⟨k, Nat.zero_le _, by omega, by rw [getElem!_pos d' k hk']; simpa using e⟩
      obtain ⟨r1, r2, r3⟩ := hget k2 q2
      rw [r2] at e2
      rw [← e2, r3]
      exact oa_mem q2
    · intro hx
      obtain ⟨k, hk, e⟩ := List.getElem_of_mem hx
      obtain ⟨r1, r2, r3⟩ := hget k hk
      obtain ⟨k2, _, q2, e2⟩ := (hseg.mem dl[k]).2 ⟨k, Nat.zero_le _, hk, r2⟩
      rw [oa_at hk, e] at r3
      rw [← r3, ← e2]
      refine List.mem_map.2 ⟨d'[k2]!, ?_, rfl⟩
      rw [getElem!_pos d' k2 (by omega)]
      exact Array.getElem_mem_toList (by omega)
  · refine (own_srt (enc := eN) ho hglt m d' hsz os).same fun k hk => ?_
    unfold oV oa
    rw [hat k (by omega)]
    rfl
  · unfold sortWorld
    rw [Go.Sort.size_grow, size_putRow]
    exact Nat.le_add_right _ _
theorem osort {l : List Wt} {w : World} {b lb lo c gb base d : Nat} (hb : w.heap[b]? = some (.cells #[.slice (some ⟨lb, lo, none⟩) l.length c] 22 (0, 0))) (hbl : b < w.heap.size) (hc : ∀ j, j < l.length → w.cell? ⟨lb, lo + j * 2, none⟩ = some (.string (wa l j).s)) (hll : lb < w.heap.size) {D : List Nat} (hD : ∀ x, x ∈ D → x < l.length) (hord : D.Pairwise (· < ·)) (hlen : D.length ≤ 30) (h0 : D ≠ [])
    (ho : OwnC w base 3 1 (some ⟨gb, 0, none⟩) D.length d (oV D)) (hgb : gb ≠ b) (hgl : gb ≠ lb) (hglt : gb < w.heap.size) :
    Calls Try.prog 23 #[.slice (some ⟨gb, 0, none⟩) D.length d, .func (.func 24) #[] #[.pointer (some ⟨b, 0, none⟩)]] w (SrtQ l w base gb d D) := by
  have HC := Lib.hid (osort0 hb hbl hc hll hD hord hlen h0 ho hgb hgl hglt)
  obtain ⟨Q, hQ⟩ : ∃ Q, Q = SrtQ l w base gb d D := ⟨_, rfl⟩
  have HE : Hid (∀ e u, Q e u → e = .returned (.tuple #[])) := Lib.hid fun e u h => by
    rw [hQ] at h
    exact h.1
  rw [← hQ] at HC ⊢
  obtain ⟨n, hn⟩ : ∃ n, n = D.length := ⟨_, rfl⟩
  rw [← hn] at HC ⊢
  clear hQ hn ho hb hc hord hlen hD h0
  go_enter Try.func23, Try.ntmps23
  go_wp2_with (first
    | (go_at_call 36
       refine HC.out.mono ?_
       intro e u hq
       obtain rfl := HE.out e u hq
       have HQ := Lib.hid hq
       clear hq))
  go_end0
  exact HQ.out
end Go.Proofs.Ytfchmmojhfjibaa
