import Derived.Test.YthjghofjdcepmaaGm31
import Derived.Test.YthjghofjdcepmaaGm32
import Derived.Test.YthjghofjdcepmaaGm11
import Derived.Test.YthjghofjdcepmaaGm3
import Derived.ChangeArms
import Derived.DataReads
import Derived.Deep.Slices
import Derived.Test.YthjghofjdcepmaaRows
import Derived.Test.YthjghofjdcepmaaGm8
import Derived.WalkKit
import Derived.Laws.StructEq
/- Stage 14: the landed growing table is one that the laws speak of. -/
namespace Go.Proofs.Ythjghofjdcepmaa
set_option maxRecDepth 100000
open Go.RowKit Go.Shelf
theorem gnew_no {i : Int} (h : growI i = false) (w : World) : Calls Try.prog 7 #[.int .i64 i] w (ret (.tuple #[.pointer none, .int .i64 2]) w) := by
  by_cases h1 : i < 16
  · clear h
    go_enter Try.func7, Try.ntmps7
    go_wp2_with fail
    go_ret2
    exact ⟨rfl, Below.refl _ _⟩
  · by_cases h2 : 262144 < i
    · clear h
      go_enter Try.func7, Try.ntmps7
      go_wp2_with fail
      go_ret2
      exact ⟨rfl, Below.refl _ _⟩
    · obtain ⟨n, rfl⟩ := Int.eq_ofNat_of_zero_le (show 0 ≤ i by omega)
      obtain ⟨m, hm⟩ : ∃ m, m = n - 1 := ⟨_, rfl⟩
      obtain ⟨z, hz⟩ : ∃ z, z = n &&& m := ⟨_, rfl⟩
      have hza := bits_and (n := n) (m := m) (by omega) (by omega) hz
      have hmy : mayI (n : Int) = false := by
        unfold growI at h
        rwa [show decide ((16 : Int) ≤ (n : Int)) = true from decide_eq_true (by omega), Bool.true_and] at h
      have z0 : ((z : Int) != 0) = true := by
        have : z ≠ 0 := fun e => by
          have := (may_and (n := n) (by omega) (by omega)).2 (by rw [← hm, ← hz, e])
          rw [hmy] at this
          cases this
        simp
        omega
      have zm : IntKind.i64.wrap ((n : Int) - 1) = (m : Int) := by rw [IntKind.wrap_i64]; omega
      clear h hm hz hmy
      go_enter Try.func7, Try.ntmps7
      go_wp2_with fail
      go_ret2
      exact ⟨rfl, Below.refl _ _⟩
theorem gnew_yes {n : Nat} (h : growI (n : Int) = true) (w : World) : Calls Try.prog 7 #[.int .i64 (n : Int)] w fun e w' => ∃ p F, e = .returned (.tuple #[.pointer (some ⟨p, 0, none⟩), .int .i64 0]) ∧ PG0 w' p (Gr.new n) F ∧ (∀ k, F k → w.heap.size ≤ k) ∧ Below w.heap.size w w' := by
  unfold growI at h
  rw [Bool.and_eq_true, decide_eq_true_eq] at h
  obtain ⟨h16, hmy⟩ := h
  have hb : 8 ≤ n ∧ n ≤ 262144 := by
    obtain ⟨n', e, h1, h2⟩ := mayI_pos hmy
    omega
  have n1 : ¬ (n : Int) < 16 := by omega
  have n2 : ¬ (262144 : Int) < (n : Int) := by omega
  obtain ⟨m, hmm⟩ : ∃ m, m = n - 1 := ⟨_, rfl⟩
  have hza := bits_and (n := n) (m := m) (z := 0) (by omega) (by omega) (by rw [hmm]; exact ((may_and hb.1 hb.2).1 hmy).symm)
  have zm : IntKind.i64.wrap ((n : Int) - 1) = (m : Int) := by rw [IntKind.wrap_i64]; omega
  have HTN := Lib.hid (tabP.new 16 w (by decide))
  have HMY := Lib.hid hmy
  have hbd : ∀ (A : Option Addr) (w : World), (Instr.build 51 #[(0, .int .i64 (n : Int)), (1, .pointer A)]).run Try.prog w = .ok (.agg #[.int .i64 (n : Int), .pointer A, .pointer none, .int .i64 0]) w := fun A w => by kernel_rfl
  clear hb hmm h16 hmy
  go_enter Try.func7, Try.ntmps7
  go_wp2_with (first
    | (go_at_call 26
       refine HTN.out.mono ?_
       rintro e u ⟨b, G, rfl, hpt, hG, hb⟩
       have HPT := Lib.hid hpt
       have HG := Lib.hid hG
       have HB := Lib.hid hb
       clear hpt hG hb))
  go_ret2
  have hba := below_alloc u (.cells #[.int .i64 (n : Int), .pointer (some ⟨b, 0, none⟩), .pointer none, .int .i64 0] 51)
  have hz : (u.alloc (.cells #[.int .i64 (n : Int), .pointer (some ⟨b, 0, none⟩), .pointer none, .int .i64 0] 51)).heap.size = u.heap.size + 1 := by simp
  have hGo := footPT0.old HPT.out
  refine ⟨u.heap.size, fun k => k = u.heap.size ∨ G k, rfl, ⟨b, 0, G, fun _ => False, heap_alloc_new u _, pt0_step HPT.out hba, fun e => (by cases e), .inl rfl, fun k hk => .inr hk, fun e => (by cases e), fun q => ?_, fun e => (by cases e), fun k hk => ?_, HMY.out⟩, fun k hk => ?_, HB.out.trans (hba.mono HB.out.size)⟩
  · have := hGo _ q
    omega
  · rcases hk with rfl | hk
    · omega
    · have := hGo k hk
      omega
  · rcases hk with rfl | hk
    · exact HB.out.size
    · exact HG.out k hk
theorem pt0_keepC {w w' : World} {p : Nat} {s : Tb} {F R : Nat → Prop} (h : PT0 w p s F) (hk : KeptC R w w') (hd : ∀ k, F k → ¬ R k) : PT0 w' p s F := by
  obtain ⟨g, c, e, h⟩ := h
  exact ⟨g, c, e, PTY.keepC h hk hd⟩
theorem telT_some {w0 : World} {p : Nat} {s : Tb} {F R : Nat → Prop} (h : PT0 w0 p s F) (hd : ∀ k, F k → ¬ R k) (hRo : ∀ k, R k → k < w0.heap.size) : TelT (some ⟨p, 0, none⟩) s.all R w0 := fun W hW => by
  refine (tall_q rfl (pt0_keepC h hW hd)).mono ?_
  rintro e w' ⟨lb, rfl, hb, hs⟩
  exact ⟨lb, rfl, hb, hs R hd fun k q => Nat.lt_of_lt_of_le (hRo k q) hW.1⟩
theorem telT_none {w0 : World} {R : Nat → Prop} (hRo : ∀ k, R k → k < w0.heap.size) : TelT none [] R w0 := fun W hW => by
  refine (tall_n W).mono ?_
  rintro e w' ⟨lb, rfl, hb, hs⟩
  exact ⟨lb, rfl, hb, hs R fun k q => Nat.lt_of_lt_of_le (hRo k q) hW.1⟩
def gA1 : Nat := 58
theorem gall_any {w : World} {p pn px : Nat} {s : Gr} {F Fn Fx : Nat → Prop} (h : PGY w p pn px s F Fn Fx) : Calls Try.prog 24 #[.pointer (some ⟨p, 0, none⟩)] w fun e w' => ∃ lb Fi, e = .returned (.func (.func gA1) #[] lb) ∧ Below w.heap.size w w' ∧ (∀ k, Fi k → k < w'.heap.size ∧ (F k ∨ w.heap.size ≤ k)) ∧ ItC gEnc gA1 lb s.all Fi w' := by
  refine (gall_fn w _).mono ?_
  rintro r w' ⟨rfl, rfl⟩
  have hb := below_alloc w (.cells #[.pointer (some ⟨p, 0, none⟩)] 24)
  have hz : (w.alloc (.cells #[.pointer (some ⟨p, 0, none⟩)] 24)).heap.size = w.heap.size + 1 := by simp
  refine ⟨_, fun k => F k ∨ k = w.heap.size, rfl, hb, fun k hk => ?_, fun R hR hRo => ?_⟩
  · rcases hk with q | rfl
    · have := h.old k q
      exact ⟨by omega, .inl q⟩
    · exact ⟨by omega, .inr (Nat.le_refl _)⟩
  · have hp := h.step hb
    have hbo : ∀ W, KeptC R (w.alloc (.cells #[.pointer (some ⟨p, 0, none⟩)] 24)) W → Calls Try.prog 53 #[.pointer (some ⟨p, 0, none⟩)] W (ret (.agg #[.pointer (some ⟨pn, 0, none⟩), .pointer (if s.mv then some ⟨px, 0, none⟩ else none)]) W) := fun W hW => gboth_c (hW.2 p _ _ _ hp.blk (hR p (.inl hp.mem)))
    have h1 := telT_some hp.now (fun k q => hR k (.inl (hp.subN k q))) hRo
    have ha : s.all = s.now.all.map (·.2) ++ (if s.mv then s.next.all else []).map (·.2) := by
      unfold Gr.all Gr.ents
      cases s.mv <;> rfl
    rw [ha]
    refine gall_it hRo (hR _ (.inr rfl)) (blk_cell (heap_alloc_new w _) 0) hbo h1 ?_
    cases hm : s.mv with
    | true =>
      rw [if_pos rfl, if_pos rfl]
      exact telT_some (hp.next hm) (fun k q => hR k (.inl (hp.subX hm k q))) hRo
    | false =>
      rw [if_neg Bool.false_ne_true, if_neg Bool.false_ne_true]
      exact telT_none hRo
theorem groP : GroP PG0 gA1 where
  foot := footPG0
  eg := gall_eg
  new_no := fun n w h => gnew_no h w
  new := fun n w h => gnew_yes h w
  put := fun ⟨_, _, _, _, h⟩ hs y x hy hx => gput_any h hs y x hy hx
  drop := fun ⟨_, _, _, _, h⟩ hs y x hy _ => gdrop_any h hs y x hy
  step := fun ⟨_, _, _, _, h⟩ hs => gstep_any h hs
  find := fun ⟨_, _, _, _, h⟩ hs y hy fid cap ans J HA hJ => gfind_any h hs y hy fid cap ans J HA hJ
  left := fun ⟨_, _, _, _, h⟩ hs => gleft_any h hs
  places := fun ⟨_, _, _, _, h⟩ hs => gplaces_any h hs
  entries := fun ⟨_, _, _, _, h⟩ hs => gentries_any h hs
  marks := fun ⟨_, _, _, _, h⟩ hs => gmarks_any h hs
  copy := fun ⟨_, _, _, _, h⟩ hs => gcopy_any h hs
  all := fun ⟨_, _, _, _, h⟩ _ => gall_any h
theorem gfind_un {pa : Option Addr} {w : World} (h : UnG pa w) (H : Nat) (fid : FuncId) (cap : Array Value) : Calls Try.prog 54 #[.pointer pa, .int .u64 (H : Int), .func (.func fid) #[] cap] w (ret (.tuple #[.int .u32 0, .bool false]) w) := by
  have hb1 := below_alloc w (.cells #[.func (.func fid) #[] cap] 72)
  have hb2 := hb1.alloc hb1.size (.cells #[.int .u32 0] 32)
  have hn : ∀ W, Calls Try.prog 66 #[.pointer none, .int .u64 (H : Int), .func (.func 70) #[] #[.pointer (some ⟨w.heap.size + 1, 0, none⟩), .pointer (some ⟨w.heap.size, 0, none⟩)]] W (ret (.tuple #[.int .i64 0, .bool false]) W) := fun W => tfind_un (fun W' _ => tmade_un (.inl rfl)) H _ _
  refine (gfind_walk (q := none) (k := 0) (z := 0) (r := false) (K := fun w' => Below w.heap.size w w') ?_).mono fun e w' hh => ⟨hh.1, hh.2⟩
  have hs := gseek_2 (M := fun w' => Below w.heap.size w w') (K := fun w' => Below w.heap.size w w') (gboth_un (h.step hb2)) (fun W hW => (hn W).mono fun e w' hh => ⟨hh.1, (hb2.trans (hW.mono hb2.size)).trans (hh.2.mono (hb2.trans (hW.mono hb2.size)).size)⟩) fun W hW => (hn W).mono fun e w' hh => ⟨hh.1, hW.trans (hh.2.mono hW.size)⟩
  exact hs.mono fun e w' hh => ⟨hh.1, fun e => (by cases e), hh.2⟩
theorem unG_non {pa : Option Addr} {w : World} (h : UnG pa w) : NonG gA1 pa w where
  put := fun W hb y x => gput_un (h.step hb) y x
  drop := fun W hb y x => gdrop_un (h.step hb) y x
  find := fun W hb y fid cap => gfind_un (h.step hb) y fid cap
  step := fun W hb => gstep_un (h.step hb)
  left := fun W hb => gleft_un (h.step hb)
  places := fun W hb => gplaces_un (h.step hb)
  entries := fun W hb => gentries_un (h.step hb)
  marks := fun W hb => gmarks_un (h.step hb)
  copy := fun W hb => gcopy_un (h.step hb)
  all := fun W hb => by
    refine (gall_fn W pa).mono ?_
    rintro r w' ⟨rfl, rfl⟩
    have hb1 := below_alloc W (.cells #[.pointer pa] 24)
    have hz : (W.alloc (.cells #[.pointer pa] 24)).heap.size = W.heap.size + 1 := by simp
    have hu := h.step hb
    have hws := hb.size
    refine ⟨_, fun k => (∃ a, pa = some a ∧ k = a.block) ∨ k = W.heap.size, rfl, hb1, fun k hk => ?_, fun R hR hRo => ?_⟩
    · rcases hk with ⟨a, rfl, rfl⟩ | rfl
      · rcases h with q | ⟨p, q, hc⟩
        · cases q
        · injection q with q
          subst q
          obtain ⟨cs, t, fr, hq⟩ := cells_of_cell hc
          have : p < w.heap.size := lt_heap' hq
          exact ⟨by show p < _; omega, .inl this⟩
      · exact ⟨by omega, .inr (Nat.le_refl _)⟩
    · have hn := telT_none hRo
      refine gall_it (T1 := []) (T2 := []) hRo (hR _ (.inr rfl)) (blk_cell (heap_alloc_new W _) 0) (fun V hV => gboth_un ?_) hn hn
      rcases hu.step hb1 with rfl | ⟨p, rfl, hc⟩
      · exact .inl rfl
      · exact .inr ⟨p, rfl, hV.cell hc (hR p (.inl ⟨_, rfl, rfl⟩))⟩
theorem gnon_nil (w : World) : NonG gA1 none w := unG_non (.inl rfl)
theorem gnon_zero (w : World) (b : Nat) (h : w.heap[b]? = some (.cells #[.int .i64 0, .pointer none, .pointer none, .int .i64 0] 51 (0, 0))) : NonG gA1 (some ⟨b, 0, none⟩) w := unG_non (.inr ⟨b, rfl, blk_cell h 1⟩)
end Go.Proofs.Ythjghofjdcepmaa
/- How arguments that are structs (in structs) of numbers and flags, and slices of them, are opened: leaf by leaf, over any program. -/
namespace Go.Proofs.Ythjghofjdcepmaa
open Go.ChangeShapes Go.WideShapes Go.ChangeAt Go.RowKit
/-- A leaf of a struct: a number, a flag. -/
inductive Leaf where
  | num (k : IntKind)
  | flag
def Leaf.ok : Leaf → Value → Prop
  | .num k, v => ∃ x, v = .int k x ∧ (Lit.int k x).wf = true
  | .flag, v => ∃ b, v = .bool b
/-- The leaves of fields that lie one behind the other. -/
def flatFs (P : Program) (F : TypeId → Option (List Leaf)) : List Field → Nat → Option (List Leaf)
  | [], _ => some []
  | f :: r, o => match F f.type with
    | none => none
    | some a => if f.offset = o ∧ P.cellsOf f.type = a.length then (match flatFs P F r (o + a.length) with | none => none | some b => some (a ++ b)) else none
def flatK (P : Program) : Nat → TypeId → Option (List Leaf)
  | 0, _ => none
  | n + 1, t => match P.underlying t with
    | some (.int k) => some [.num k]
    | some .bool => some [.flag]
    | some (.struct fs) => (match flatFs P (flatK P n) fs.toList 0 with | none => none | some l => if P.cellsOf t = l.length then some l else none)
    | _ => none
section
variable {H : Type} {enc : TypeId × Value → H} {P : Program}
theorem flat_fields {cs : List Value} (F : TypeId → Option (List Leaf)) (T : TypeId → List Value → Prop) (hF : ∀ t a l, F t = some a → T t l → l.length = a.length ∧ ∀ (j : Nat) (k : Leaf), a[j]? = some k → ∃ v, l[j]? = some v ∧ k.ok v) :
    ∀ (fs : List Field) (o : Nat) (ks : List Leaf), flatFs P F fs o = some ks → (∀ f, f ∈ fs → T f.type ((cs.drop f.offset).take (P.cellsOf f.type))) → ∀ (j : Nat) (k : Leaf), ks[j]? = some k → ∃ v, (cs.drop o)[j]? = some v ∧ k.ok v
  | [], o, ks, h, _, j, k, hj => by
    simp [flatFs] at h
    subst h
    simp at hj
  | f :: r, o, ks, h, hT, j, k, hj => by
    unfold flatFs at h
    cases ha : F f.type with
    | none => rw [ha] at h; cases h
    | some a =>
      rw [ha] at h
      simp only at h
      by_cases hc : f.offset = o ∧ P.cellsOf f.type = a.length
      · rw [if_pos hc] at h
        cases hb : flatFs P F r (o + a.length) with
        | none => rw [hb] at h; cases h
        | some b =>
          rw [hb] at h
          simp only [Option.some.injEq] at h
          subst h
          obtain ⟨h1, h2⟩ := hc
          have q := hF _ _ _ ha (hT f (.head _))
          rw [h1, h2] at q
          rcases Nat.lt_or_ge j a.length with hlt | hge
          · rw [List.getElem?_append_left hlt] at hj
            obtain ⟨v, e1, e2⟩ := q.2 j k hj
            rw [List.getElem?_take, if_pos hlt] at e1
            exact ⟨v, e1, e2⟩
          · rw [List.getElem?_append_right hge] at hj
            obtain ⟨v, e1, e2⟩ := flat_fields F T hF r (o + a.length) b hb (fun g hg => hT g (.tail _ hg)) (j - a.length) k hj
            refine ⟨v, ?_, e2⟩
            rw [List.getElem?_drop] at e1 ⊢
            rw [← e1]
            congr 1
            omega
      · rw [if_neg hc] at h
        cases h
theorem trod_flat {W : World} {b : Nat} {sp : Nat → Bool} {hd : Bool} : ∀ (n : Nat) (t : TypeId) (ks : List Leaf) (cs : List Value) (m : Nat) (y : DataW H × List MemPlace), flatK P n t = some ks → DataW.trod enc P W b sp hd m t cs = some y →
    cs.length = ks.length ∧ ∀ (j : Nat) (k : Leaf), ks[j]? = some k → ∃ v, cs[j]? = some v ∧ k.ok v
  | 0, _, _, _, _, _, h, _ => by cases h
  | n + 1, t, ks, cs, m, y, h, ht => by
    unfold flatK at h
    split at h
    · rename_i k hu
      simp only [Option.some.injEq] at h
      subst h
      obtain ⟨x, rfl, _, hw⟩ := DataW.trod_int hu ht
      refine ⟨rfl, fun j k' hj => ?_⟩
      obtain rfl : j = 0 := by
        rcases j with _ | j
        · rfl
        · simp at hj
      simp at hj
      subst hj
      exact ⟨_, rfl, x, rfl, hw⟩
    · rename_i hu
      simp only [Option.some.injEq] at h
      subst h
      obtain ⟨x, rfl, _⟩ := DataW.trod_bool hu ht
      refine ⟨rfl, fun j k' hj => ?_⟩
      obtain rfl : j = 0 := by
        rcases j with _ | j
        · rfl
        · simp at hj
      simp at hj
      subst hj
      exact ⟨_, rfl, x, rfl⟩
    · rename_i fs hu
      cases hl : flatFs P (flatK P n) fs.toList 0 with
      | none => rw [hl] at h; cases h
      | some l =>
        rw [hl] at h
        simp only at h
        by_cases hc : P.cellsOf t = l.length
        · rw [if_pos hc] at h
          simp only [Option.some.injEq] at h
          subst h
          obtain ⟨xs, m', _, _, hlen, hxs, hg⟩ := DataW.trod_struct hu ht
          refine ⟨hlen.trans hc, fun j k hj => ?_⟩
          have q := flat_fields (P := P) (cs := cs) (flatK P n) (fun t l => ∃ y, DataW.trod enc P W b sp hd m' t l = some y) (fun t a l ha hy => by obtain ⟨y, hy⟩ := hy; exact trod_flat n t a l m' y ha hy) fs.toList 0 l hl
            (fun f hf => by
              obtain ⟨i, hi, he⟩ := List.getElem_of_mem hf
              have hi' : i < fs.size := by simpa using hi
              have e := hg i f (by rw [← Array.getElem?_toList, List.getElem?_eq_getElem hi, he])
              rw [List.getElem?_eq_getElem (by omega)] at e
              exact ⟨_, e⟩) j k hj
          rw [List.drop_zero] at q
          exact q
        · rw [if_neg hc] at h
          cases h
    · cases h
/-- A struct that came in. -/
theorem open_flat {W : World} {r : Reach} {b0 n : Nat} {t : TypeId} {v : Value} {d : DataW H} {p : List MemPlace} {fs : Array Field} {ks : List Leaf} (ht : P.underlying t = some (.struct fs)) (hk : flatK P n t = some ks)
    (hv : Value.okWide P W r b0 t v) (h : DataW.Trod enc P W 0 (fun _ => true) true t v d p) : ∃ cs, v = .agg cs ∧ cs.size = ks.length ∧ ∀ (j : Nat) (k : Leaf), ks[j]? = some k → ∃ x, cs[j]? = some x ∧ k.ok x := by
  have hv' : ∃ cs, v = .agg cs := by
    simp only [Value.okWide, ht] at hv
    obtain ⟨cs, h1, _⟩ := hv
    exact ⟨cs, h1⟩
  obtain ⟨cs, rfl⟩ := hv'
  obtain ⟨fuel, hf⟩ := h
  obtain ⟨h1, h2⟩ := trod_flat n t ks _ _ _ hk hf
  simp only [Value.cells] at h1 h2
  exact ⟨cs, rfl, by simpa using h1, fun j k hj => by simpa using h2 j k hj⟩
/-- A slice of such that came in. -/
theorem open_flats {W : World} {r : Reach} {b0 n : Nat} {t e : TypeId} {v : Value} {d : DataW H} {p : List MemPlace} {ks : List Leaf} (ht : P.underlying t = some (.slice e)) (hk : flatK P n e = some ks) (hc : P.cellsOf e = ks.length)
    (hv : Value.okWide P W r b0 t v) (h : DataW.Trod enc P W 0 (fun _ => true) true t v d p) :
    ∃ A len cap f, v = .slice A len cap ∧ len ≤ cap ∧ cap ≤ maxLen ∧ RdC W W.heap.size A (len * ks.length) f ∧ ∀ i, i < len → ∀ (j : Nat) (k : Leaf), ks[j]? = some k → k.ok (f (i * ks.length + j)) := by
  obtain ⟨a0, len, cap, rfl⟩ := okWide_slice ht hv
  obtain ⟨fuel, hf⟩ := h
  rcases Deep.open_slice ht hf with ⟨hcs, _⟩ | ⟨a, len', cap', m, n', D, Pl, hcs, _, hl, hm, hmm, _, hx⟩
  · simp [Value.cells] at hcs
    obtain ⟨rfl, rfl, rfl⟩ := hcs
    exact ⟨none, 0, 0, fun _ => undef, rfl, Nat.le_refl _, Nat.zero_le _, .inl (by simp), fun i hi => absurd hi (by omega)⟩
  · simp [Value.cells] at hcs
    obtain ⟨rfl, rfl, rfl⟩ := hcs
    simp only [if_true] at hmm
    subst hmm
    rw [hc] at hx
    obtain ⟨L, hL⟩ : ∃ L, L = ks.length := ⟨_, rfl⟩
    rw [← hL] at hx ⊢
    have cell : ∀ i, i < len → ∀ j, j < L → ∃ x, W.cell? (a.add (i * L + j)) = some x ∧ ∀ k, ks[j]? = some k → k.ok x := fun i hi j hj => by
      obtain ⟨cs', h1, h2⟩ := hx i (by omega)
      obtain ⟨_, h3, h4⟩ := World.cells?_some h1
      obtain ⟨_, h5⟩ := trod_flat n e ks cs' _ _ hk h2
      have hk' : ks[j]? = some (ks[j]'(by omega)) := List.getElem?_eq_getElem (by omega)
      obtain ⟨x, h6, h7⟩ := h5 j _ hk'
      refine ⟨x, ?_, fun k hkk => ?_⟩
      · have h8 := h4 j hj
        rw [h6] at h8
        rw [Deep.add_add] at h8
        exact h8
      · rw [hk'] at hkk
        simp only [Option.some.injEq] at hkk
        rw [← hkk]
        exact h7
    refine ⟨some a, len, _, fun k => (W.cell? (a.add k)).getD undef, rfl, hl, hm, ?_, fun i hi j k hj => ?_⟩
    · rcases Nat.eq_zero_or_pos (len * L) with h0 | h0
      · exact .inl h0
      · have hL0 : 0 < L := by
          rcases Nat.eq_zero_or_pos L with q | q
          · rw [q, Nat.mul_zero] at h0; omega
          · exact q
        have each : ∀ k, k < len * L → ∃ x, W.cell? (a.add k) = some x := fun k hk => by
          obtain ⟨x, hx', _⟩ := cell (k / L) (Nat.div_lt_of_lt_mul (by rw [Nat.mul_comm]; exact hk)) (k % L) (Nat.mod_lt _ hL0)
          rw [show k / L * L + k % L = k by rw [Nat.mul_comm]; exact Nat.div_add_mod k L] at hx'
          exact ⟨x, hx'⟩
        obtain ⟨b, off, spot⟩ := a
        obtain ⟨x0, e0⟩ := each 0 h0
        have hspot : spot = none := by simpa [Addr.add] using World.cell?_spot e0
        subst hspot
        have hlt := World.block_lt_of_cell? W _ e0
        refine .inr ⟨b, off, rfl, by simpa [Addr.add] using hlt, fun k hk => ?_⟩
        obtain ⟨x, e1⟩ := each k hk
        rw [← add_plain, e1]
        dsimp only
        rw [e1]
        rfl
    · have hjL : j < L := by
        rw [hL]
        exact (List.getElem?_eq_some_iff.1 hj).1
      obtain ⟨x, e1, e2⟩ := cell i hi j hjL
      show k.ok ((W.cell? (a.add (i * L + j))).getD undef)
      rw [e1]
      exact e2 k hj
end
end Go.Proofs.Ythjghofjdcepmaa
/- Closed facts of this program, and the bounds that a number's kind gives. -/
namespace Go.Proofs.Ythjghofjdcepmaa
theorem Try.own : ownKnob Try.prog.godebug = none := by kernel_rfl
theorem Try.laidOut : laidOutB Try.prog = true := by kernel_rfl
theorem wf_u8 {x : Int} (h : (Lit.int .u8 x).wf = true) : 0 ≤ x ∧ x ≤ 255 := by
  simpa [Lit.wf, IntKind.min, IntKind.max, IntKind.signed, IntKind.bits] using h
theorem wf_u16 {x : Int} (h : (Lit.int .u16 x).wf = true) : 0 ≤ x ∧ x ≤ 65535 := by
  simpa [Lit.wf, IntKind.min, IntKind.max, IntKind.signed, IntKind.bits] using h
theorem wf_u32 {x : Int} (h : (Lit.int .u32 x).wf = true) : 0 ≤ x ∧ x ≤ 4294967295 := by
  simpa [Lit.wf, IntKind.min, IntKind.max, IntKind.signed, IntKind.bits] using h
theorem wf_u64 {x : Int} (h : (Lit.int .u64 x).wf = true) : 0 ≤ x ∧ x ≤ 18446744073709551615 := by
  simpa [Lit.wf, IntKind.min, IntKind.max, IntKind.signed, IntKind.bits] using h
theorem wf_i64 {x : Int} (h : (Lit.int .i64 x).wf = true) : -9223372036854775808 ≤ x ∧ x ≤ 9223372036854775807 := by
  simpa [Lit.wf, IntKind.min, IntKind.max, IntKind.signed, IntKind.bits] using h
end Go.Proofs.Ythjghofjdcepmaa
/- How an entry is opened, where it came in. -/
namespace Go.Proofs.Ythjghofjdcepmaa
open Go.ChangeShapes Go.WideShapes Go.ChangeAt Go.RowKit
set_option maxRecDepth 100000 in
theorem open_ent {H : Type} {enc : TypeId × Value → H} {W : World} {r : Reach} {b0 : Nat} {v : Value} {d : DataW H} {p : List MemPlace} (hv : Value.okWide Try.prog W r b0 34 v) (h : DataW.Trod enc Try.prog W 0 (fun _ => true) true 34 v d p) :
    ∃ (i k : Nat), i < 18446744073709551616 ∧ k < 4294967296 ∧ v = .agg #[.int .u64 (i : Int), .int .u32 (k : Int)] := by
  obtain ⟨cs, rfl, hsz, hc⟩ := open_flat (n := 9) (ks := [.num .u64, .num .u32]) Try.underlying34 (by kernel_rfl) hv h
  obtain ⟨_, h0, i, rfl, hi⟩ := hc 0 _ rfl
  obtain ⟨_, h1, k, rfl, hk⟩ := hc 1 _ rfl
  have hi' := wf_u64 hi
  have hk' := wf_u32 hk
  obtain ⟨i, rfl⟩ := Int.eq_ofNat_of_zero_le hi'.1
  obtain ⟨k, rfl⟩ := Int.eq_ofNat_of_zero_le hk'.1
  refine ⟨i, k, by omega, by omega, ?_⟩
  congr 1
  refine Array.ext (by rw [hsz]; rfl) fun j hj _ => ?_
  rw [hsz] at hj
  have hj : j < 2 := hj
  rcases (show j = 0 ∨ j = 1 by omega) with rfl | rfl
  · rw [Array.getElem?_eq_getElem (by omega)] at h0
    injection h0
  · rw [Array.getElem?_eq_getElem (by omega)] at h1
    injection h1
end Go.Proofs.Ythjghofjdcepmaa
/- Entries compared. -/
namespace Go.Proofs.Ythjghofjdcepmaa
set_option maxRecDepth 100000
open Go.RowKit Go.Shelf
theorem eqE (a b c d : Int) (W : World) : (Op.equalIn 10000 34 (.agg #[.int .u64 a, .int .u32 b]) (.agg #[.int .u64 c, .int .u32 d])).run Try.prog W = .ok (a == c && b == d) W := by
  have hf : Try.prog.underlying 34 = some (.struct (Try.prog.fieldsOf 34)) := by kernel_rfl
  rw [run_equalIn_struct W 9999 34 _ _ hf (by kernel_rfl)]
  have hl : (Try.prog.fieldsOf 34).toList = [{ name := "Hash", type := 31, offset := 0, embedded := false, tag := "", pkgPath := "", byteOffset := 0 }, { name := "What", type := 32, offset := 1, embedded := false, tag := "", pkgPath := "", byteOffset := 8 }] := by kernel_rfl
  rw [hl]
  have e1 := run_equalIn_int (P := Try.prog) W 9998 31 .u64 .u64 a c Try.underlying31
  have e2 := run_equalIn_int (P := Try.prog) W 9998 32 .u32 .u32 b d Try.underlying32
  have p0 : ∀ (a b : Int), (part 31 #[.int .u64 a, .int .u32 b] 0).run Try.prog W = .ok (.int .u64 a) W := fun a b => by kernel_rfl
  have p1 : ∀ (a b : Int), (part 32 #[.int .u64 a, .int .u32 b] 1).run Try.prog W = .ok (.int .u32 b) W := fun a b => by kernel_rfl
  cases hv : (a == c) <;> cases hp : (b == d) <;> rw [hv] at e1 <;> rw [hp] at e2 <;> simp [Op.eqFields, Sem.run_bind, p0, p1, e1, e2, Result.andThen_ok, Sem.run_ite, Sem.run_pure]
theorem neqE (a b c d : Int) (W : World) : (binOp .neq 34 (.agg #[.int .u64 a, .int .u32 b]) (.agg #[.int .u64 c, .int .u32 d])).run Try.prog W = .ok (.bool (!(a == c && b == d))) W := by
  have h : (Op.equalIn Op.maxDepth 34 (.agg #[.int .u64 a, .int .u32 b]) (.agg #[.int .u64 c, .int .u32 d])).run Try.prog W = _ := eqE a b c d W
  unfold binOp
  simp [Op.equal, h, Result.andThen_ok]
end Go.Proofs.Ythjghofjdcepmaa
