/- Stage 9: ArenaOnce. -/
import Derived.Test.YthljpfmonienlaaLq
import Derived.Test.YthljpfmonienlaaLp
import Derived.Test.YthljpfmonienlaaInW
namespace Go.Proofs.Ythljpfmonienlaa
set_option maxRecDepth 100000
open Go.RowKit Go.Shelf
theorem take_new {s : Ar} {hs : List (Nat × Nat)} (h : Ar.Hist s hs) {j : Nat} {x : Nat × Nat} (hx : hs[j]? = some x) : ¬ x ∈ hs.take j := fun hm => by
  obtain ⟨i, hi, e⟩ := List.mem_iff_getElem.1 hm
  rw [List.length_take] at hi
  rw [List.getElem_take] at e
  have := h.inj (a := i) (b := j) (x := x) (by rw [List.getElem?_eq_getElem (by omega), e]) hx
  omega
theorem any_first {s : Ar} {hs : List (Nat × Nat)} (h : Ar.Hist s hs) {j : Nat} {x : Nat × Nat} (hx : hs[j]? = some x) (hl : s.live (x.1 : Int) x.2 = true) : (hs.take j).any (fun y => y.1 == x.1 && s.live (y.1 : Int) y.2) = false := by
  rw [List.any_eq_false]
  intro y hy hc
  obtain ⟨i, hi, e⟩ := List.mem_iff_getElem.1 hy
  rw [List.length_take] at hi
  rw [List.getElem_take] at e
  rw [Bool.and_eq_true, beq_iff_eq] at hc
  have := h.apart (a := i) (b := j) (x := y) (y := x) (by rw [List.getElem?_eq_getElem (by omega), e]) hx hc.2 hl hc.1
  omega
theorem any_step {s : Ar} {hs : List (Nat × Nat)} {j : Nat} {x : Nat × Nat} (ht : hs.take j ++ [x] = hs.take (j + 1)) {lam : Bool} (hl : s.live (x.1 : Int) x.2 = lam) (i : Nat) {b : Bool} (hb : i = x.1 → b = ((hs.take j).any (fun y => y.1 == i && s.live (y.1 : Int) y.2) || lam)) :
    (if i = x.1 then Value.bool b else .bool ((hs.take j).any fun y => y.1 == i && s.live (y.1 : Int) y.2)) = .bool ((hs.take (j + 1)).any fun y => y.1 == i && s.live (y.1 : Int) y.2) := by
  rw [← ht, List.any_append]
  by_cases e : i = x.1
  · rw [if_pos e, hb e]
    congr 2
    simp [e, hl]
  · rw [if_neg e]
    have : (x.1 == i) = false := by simpa using fun q => e q.symm
    simp [this]
theorem asetL_len {α : Type} (G : List α) : (asetL G).length = G.length := List.length_map ..
theorem len_m {w W : World} {p bg : Nat} {A : Option Addr} {c : Nat} {s : Ar} {hs G : List (Nat × Nat)} (h : OnM w W p bg A c s hs G) : Calls Try.prog 17 #[.pointer (some ⟨p, 0, none⟩)] W (ret (.int .i64 (s.count : Int)) W) := by
  obtain ⟨F, ⟨g, c2, fd, fs, bf, hx, hr⟩, _⟩ := h.st
  exact plen_c W p _ (blk_cell hx.blk 3)
theorem once_known (n : Int) (A : Option Addr) (m c : Nat) (h : n < 1 ∨ 60 < n ∨ 100 < m) (w : World) : Calls Try.prog 4 #[.int .u8 n, .slice A m c] w fun e w' => e = .returned (.bool true) ∧ Below w.heap.size w w' := by
  by_cases h1 : n < 1
  · go_enter Try.func4, Try.ntmps4
    go_wp2_with (first
      | (go_at_call 6
         refine (known_p w).mono ?_
         rintro e u ⟨rfl, hb⟩))
    go_ret
    exact ⟨rfl, hb⟩
  · by_cases h2 : 60 < n
    · go_enter Try.func4, Try.ntmps4
      go_wp2_with (first
        | (go_at_call 6
           refine (known_p w).mono ?_
           rintro e u ⟨rfl, hb⟩))
      go_ret
      exact ⟨rfl, hb⟩
    · have h3 : (100 : Int) < (m : Int) := by omega
      go_enter Try.func4, Try.ntmps4
      go_wp2_with (first
        | (go_at_call 6
           refine (known_p w).mono ?_
           rintro e u ⟨rfl, hb⟩))
      go_ret
      exact ⟨rfl, hb⟩
set_option maxHeartbeats 4000000 in
theorem once_any (n : Nat) (hn1 : 1 ≤ n) (hn2 : n ≤ 60) (A0 : Option Addr) (m c0 : Nat) (f : Nat → Int) (hf : Byt f) (hm : m ≤ 100) (_hmc : m ≤ c0) (_hc9 : c0 ≤ 9223372036854775807) (w : World) (hr : Rd w w.heap.size A0 m f) :
    Calls Try.prog 4 #[.int .u8 (n : Int), .slice A0 m c0] w fun e w' => e = .returned (.bool true) ∧ Below w.heap.size w w' := by
  have h1 : ¬ (n : Int) < 1 := by omega
  have h2 : ¬ (60 : Int) < (n : Int) := by omega
  have h3 : ¬ (100 : Int) < (m : Int) := by omega
  have hcv : IntKind.i64.wrap (n : Int) = (n : Int) := by rw [IntKind.wrap_i64]; omega
  have HR := Lib.hid hr
  have HF := Lib.hid hf
  have hmm := @run_makeMap Try.prog
  clear hr hf
  go_enter Try.func4, Try.ntmps4
  go_upto_region 7 with (first
    | (go_at_call 7
       refine (pnew_st w n hn1 (by omega)).mono ?_
       rintro e u ⟨p, F0, rfl, hp, hF0, hb⟩
       have HP := Lib.hid hp
       have HF0 := Lib.hid hF0
       have HB := Lib.hid hb
       clear hp hF0 hb))
  go_upto_region 8 with fail
  have HM0 : Hid (OnM w (u.alloc (.map #[] 0)) p u.heap.size none 0 (Ar.new n) [] []) := Lib.hid (by
    refine ⟨⟨F0, HP.out.step (below_alloc u _), fun k hk => ⟨HF0.out k hk, fun hx => ?_⟩, fun k hx => ?_, HB.out.trans ((below_alloc u _).mono HB.out.size)⟩, OwnC.nil_ _ _ _ _ _, amap_new u kvH, HB.out.size, fun _ => rfl⟩
    · rcases hx with hx | hx
      · have := HP.out.old k hk
        omega
      · exact absurd hx.1 (by simp)
    · have hz : (u.alloc (.map #[] 0)).heap.size = u.heap.size + 1 := by simp
      rcases hx with hx | hx
      · omega
      · exact absurd hx.1 (by simp))
  obtain ⟨bg, hbg⟩ : ∃ b, b = u.heap.size := ⟨_, rfl⟩
  rw [← hbg] at HM0 ⊢
  clear hbg HP HF0 HB
  generalize u.alloc (.map #[] 0) = u0 at *
  go_wp2_with fail
  go_loopw [7, 45] (fun a i wr => ∃ (k : Nat) (s : Ar) (hs G : List (Nat × Nat)) (A : Option Addr) (c : Nat), k ≤ m ∧ a = .slice A hs.length c ∧ i = .int .i64 (k : Int) ∧ (s.Ok ∧ s.has.length = n ∧ s.serial ≤ k ∧ Ar.Hist s hs ∧ GoneL s hs G) ∧ OnM w wr p bg A c s hs G) (fun _ i _ => m - (intOf i).toNat)
  case atStart => exact ⟨0, Ar.new n, [], [], none, 0, Nat.zero_le _, rfl, rfl, ⟨Ar.ok_new n, List.length_replicate, Nat.le_refl _, Ar.Hist.new n, fun x => by simp, List.nodup_nil⟩, HM0.out⟩
  case round =>
    obtain ⟨k, s, hs, G, A, c, hkm0, rfl, rfl, hS, hM⟩ := hrel
    have HS := Lib.hid hS
    have HMr := Lib.hid hM
    have HSN : Hid (s.has.length ≤ 65536) := Lib.hid (by have := hS.2.1; omega)
    have HSS : Hid (s.serial ≤ 4611686018427387904) := Lib.hid (by have := hS.2.2.1; omega)
    have HLEN : Hid (hs.length ≤ 100) := Lib.hid (by have := hS.2.2.2.1.len; have := hS.2.2.1; omega)
    clear hS hM HM0
    have zk : IntKind.i64.wrap ((k : Int) + 1) = (k : Int) + 1 := by rw [IntKind.wrap_i64]; omega
    by_cases hkm : k < m
    · rcases HR.out with h0 | ⟨bA, off, rfl, hbl, hcl⟩
      · omega
      have xb : wr.cell? ⟨bA, off + k, none⟩ = some (.int .u8 (f k)) := (HMr.out.below.cell (p := ⟨bA, off + k, none⟩) hbl).trans (hcl k hkm)
      have hfk := HF.out k
      have i0 : (0 : Int) ≤ (k : Int) := by omega
      have i1 : (k : Int) < (m : Int) := by omega
      have i2 : ((k : Int)).toNat = k := by omega
      clear hcl
      go_upto_region 11 with fail
      clear xb i0 i1 i2 HR
      go_upto_if 50 with fail
      go_cut [7, 11, 12, 13] from 46 to 148 (fun a b1 b2 b3 v => ∃ (s : Ar) (hs G : List (Nat × Nat)) (A : Option Addr) (c : Nat), a = .slice A hs.length c ∧ (s.Ok ∧ s.has.length = n ∧ s.serial ≤ k + 1 ∧ Ar.Hist s hs ∧ GoneL s hs G) ∧ OnM w v p bg A c s hs G)
      case rest =>
        clear HS HMr HSN HSS HLEN
        obtain ⟨s, hs, G, A, c, rfl, hS, hM⟩ := hcut
        generalize wc = v at *
        have HS := Lib.hid hS
        have HM := Lib.hid hM
        have HSN : Hid (s.has.length ≤ 65536) := Lib.hid (by have := hS.2.1; omega)
        have HLEN : Hid (hs.length ≤ 101) := Lib.hid (by have := hS.2.2.2.1.len; have := hS.2.2.1; omega)
        clear hS hM
        have hbs : (v.alloc (.map #[] 0)).heap.size = v.heap.size + 1 := by simp
        have HSE0 : Hid (AMap ((v.alloc (.map #[] 0)).alloc (.map #[] 0)) v.heap.size kvH (asetL [])) := Lib.hid ((amap_new v kvH).step (below_alloc _ _))
        have HAT0 : Hid (AMap ((v.alloc (.map #[] 0)).alloc (.map #[] 0)) (v.heap.size + 1) kvI []) := Lib.hid (by
          have h := amap_new (v.alloc (.map #[] 0)) kvI
          rw [hbs] at h
          exact h)
        have HBV : Hid (Below v.heap.size v ((v.alloc (.map #[] 0)).alloc (.map #[] 0))) := Lib.hid ((below_alloc v _).alloc (by rw [hbs]; omega) _)
        go_upto_region 23 with fail
        clear hbs
        obtain ⟨bs, hbs⟩ : ∃ b, b = v.heap.size := ⟨_, rfl⟩
        rw [← hbs] at HSE0 HAT0 ⊢
        have HBS := Lib.hid hbs
        obtain ⟨ba, hba⟩ : ∃ b, b = bs + 1 := ⟨_, rfl⟩
        rw [← hba] at HAT0 ⊢
        have HBAS : Hid (ba ≠ bs) := Lib.hid (by omega)
        have HBVS : Hid (v.heap.size ≤ bs ∧ v.heap.size ≤ ba) := Lib.hid (by omega)
        have HBGS : Hid (bg ≠ bs ∧ bg ≠ ba) := Lib.hid (by have := HM.out.mp.lt; omega)
        clear hba hbs HBS
        generalize ((v.alloc (.map #[] 0)).alloc (.map #[] 0)) = v2 at *
        go_wp2_with fail
        go_loopw [96] (fun i wr => ∃ (j : Nat) (La : List (Nat × Value)), j ≤ hs.length ∧ i = .int .i64 (j : Int) ∧ Kept (fun k => k = bs ∨ k = ba) v wr ∧ AMap wr bs kvH (asetL (hs.take j)) ∧ AMap wr ba kvI La ∧ ∀ i, aget i La = .bool ((hs.take j).any fun y => y.1 == i && s.live (y.1 : Int) y.2)) (fun i _ => hs.length - (intOf i).toNat)
        case atStart => exact ⟨0, [], Nat.zero_le _, rfl, Kept.of_below HBV.out _, HSE0.out, HAT0.out, fun i => rfl⟩
        case round =>
          obtain ⟨j, La, hj, rfl, hk, hse, hat, hall⟩ := hrel
          have HK := Lib.hid hk
          have HSEr := Lib.hid hse
          have HATr := Lib.hid hat
          have HALL := Lib.hid hall
          clear hk hse hat hall HSE0 HAT0
          have zj : IntKind.i64.wrap ((j : Int) + 1) = (j : Int) + 1 := by have := HLEN.out; rw [IntKind.wrap_i64]; omega
          by_cases hjl : j < hs.length
          · obtain ⟨x, hx⟩ : ∃ x, hs[j]? = some x := ⟨_, List.getElem?_eq_getElem hjl⟩
            have HX := Lib.hid hx
            obtain ⟨gA, hA, _, hgl, hcl, _⟩ := HM.out.own.lies (by omega)
            subst hA
            have z0 : wr.cell? ⟨gA, j * 2, none⟩ = some (.int .i64 (x.1 : Int)) := (HK.out.cell (p := ⟨gA, j * 2, none⟩) hgl (fun e => by have := HBVS.out; have e : gA = bs ∨ gA = ba := e; omega)).trans ((hcl (j * 2) (by omega)).trans (tcell_at hx (j := 0) (by omega)))
            have z1 : wr.cell? ⟨gA, j * 2 + 1, none⟩ = some (.int .u64 (x.2 : Int)) := (HK.out.cell (p := ⟨gA, j * 2 + 1, none⟩) hgl (fun e => by have := HBVS.out; have e : gA = bs ∨ gA = ba := e; omega)).trans ((hcl (j * 2 + 1) (by omega)).trans (tcell_at hx (j := 1) (by omega)))
            have i0 : (0 : Int) ≤ (j : Int) := by omega
            have i1 : (j : Int) < (hs.length : Int) := by omega
            have i2 : ((j : Int)).toNat = j := by omega
            have cap := HM.out.own.cap
            have cap9 : c ≤ 9223372036854775807 := by have := HM.out.own.cap_le; unfold maxLen at this; omega
            clear hcl hgl
            go_upto_region 26 with fail
            have HSE := Lib.hid (HSEr.out.step (below_alloc wr (.cells #[.int .i64 (x.1 : Int), .int .u64 (x.2 : Int)] 32)))
            have HAT := Lib.hid (HATr.out.step (below_alloc wr (.cells #[.int .i64 (x.1 : Int), .int .u64 (x.2 : Int)] 32)))
            have HK3 := Lib.hid (HK.out.step (below_alloc wr (.cells #[.int .i64 (x.1 : Int), .int .u64 (x.2 : Int)] 32)))
            have HB17 : Hid ((wr.alloc (.cells #[.int .i64 (x.1 : Int), .int .u64 (x.2 : Int)] 32)).heap[wr.heap.size]? = some (.cells #[.int .i64 (x.1 : Int), .int .u64 (x.2 : Int)] 32 (0, 0))) := Lib.hid (heap_alloc_new wr _)
            obtain ⟨b17, hb17⟩ : ∃ b, b = wr.heap.size := ⟨_, rfl⟩
            have HB17S : Hid (b17 ≠ bs ∧ b17 ≠ ba) := Lib.hid (by have := HSEr.out.lt; have := HATr.out.lt; omega)
            rw [← hb17] at HB17 ⊢
            clear hb17 z0 z1 i0 i1 i2 cap cap9 HSEr HATr HK
            generalize wr.alloc (.cells #[.int .i64 (x.1 : Int), .int .u64 (x.2 : Int)] 32) = v3 at *
            have HM3 : Hid (OnM w v3 p bg (some ⟨gA, 0, none⟩) c s hs G) := Lib.hid (HM.out.keep HK3.out fun k e => by have := HBVS.out; omega)
            have HTK : Hid (hs.take j ++ [x] = hs.take (j + 1)) := Lib.hid (by rw [List.take_add_one, HX.out]; rfl)
            have HNS : Hid (decide (x ∈ hs.take j) = false) := Lib.hid (decide_eq_false (take_new HS.out.2.2.2.1 HX.out))
            clear hx
            cases hl : s.live (x.1 : Int) x.2 with
            | true =>
              have HLL := Lib.hid hl
              have HDG : Hid (decide (x ∈ G) = false) := Lib.hid (decide_eq_false fun q => by
                have := ((HS.out.2.2.2.2.mem x).1 q).2
                rw [HLL.out] at this
                cases this)
              have HAG : Hid (aget x.1 La = .bool false) := Lib.hid (by rw [HALL.out, any_first HS.out.2.2.2.1 HX.out HLL.out])
              have HANY : Hid (∀ i, (if i = x.1 then Value.bool true else .bool ((hs.take j).any fun y => y.1 == i && s.live (y.1 : Int) y.2)) = .bool ((hs.take (j + 1)).any fun y => y.1 == i && s.live (y.1 : Int) y.2)) := Lib.hid fun i => any_step HTK.out HLL.out i (by intro; simp)
              clear hl
              have hseen : ∀ W : Stay v3, (Instr.lookup 46 (.map (some bs)) (.agg #[.int .i64 (x.1 : Int), .int .u64 (x.2 : Int)]) false).run Try.prog W.w = .ok (.bool false) W.w := fun W => by
                rw [look_set (HSE.out.step W.below), HNS.out]
              have hgone : ∀ W : Stay v3, (Instr.lookup 46 (.map (some bg)) (.agg #[.int .i64 (x.1 : Int), .int .u64 (x.2 : Int)]) false).run Try.prog W.w = .ok (.bool false) W.w := fun W => by
                rw [look_set (HM3.out.mp.step W.below), HDG.out]
              have hat : ∀ W : Stay v3, (Instr.lookup 48 (.map (some ba)) (.int .i64 (x.1 : Int)) false).run Try.prog W.w = .ok (.bool false) W.w := fun W => by
                rw [look_at (HAT.out.step W.below), HAG.out]
              have x17 : ∀ W : Stay v3, W.w.cell? ⟨b17, 0, none⟩ = some (.int .i64 (x.1 : Int)) := fun W => Stay.cell (blk_cell HB17.out 0) W
              have HXX := Lib.hid (stay_hp HB17.out)
              have HLV : Hid (∀ W : Stay v3, Calls Try.prog 18 #[.pointer (some ⟨p, 0, none⟩), .agg #[.int .i64 (x.1 : Int), .int .u64 (x.2 : Int)]] W.w fun e w' => e = .returned (.bool true) ∧ Below W.w.heap.size W.w w') := Lib.hid fun W => by
                obtain ⟨F, hF, _⟩ := (HM3.out.step W.below).st
                have h := plive_any hF HSN.out (x.1 : Int) x.2
                rw [HLL.out] at h
                exact h
              refine wp_region_stay (by kernel_rfl) (by kernel_rfl) ?_
              repeat (first
                | (refine qh_row rfl 32 (.tmp 17) rfl b17 rfl 32 #[.int .i64 (x.1 : Int), .int .u64 (x.2 : Int)] (0, 0) _ HXX.out Try.underlying32 rfl (by kernel_rfl) ?_
                   simp only [Act.put, List.setIfInBounds_toArray, List.set_cons_zero, List.set_cons_succ])
                | go_big_quiet_step (first | (go_at_call 18; with_reducible exact Calls.stay _ (HLV.out _))))
              refine wpQuiet_nil ?_
              intro w' hw'
              obtain ⟨W, rfl⟩ := hw'
              go_upto_region 28 with fail
              have HSEu := Lib.hid (HSE.out.step W.below)
              have HATu := Lib.hid (HAT.out.step W.below)
              have HMu := Lib.hid (HM3.out.step W.below)
              have HBu : Hid (W.w.heap[b17]? = some (.cells #[.int .i64 (x.1 : Int), .int .u64 (x.2 : Int)] 32 (0, 0))) := Lib.hid ((W.below.block _ (lt_heap HB17.out)).trans HB17.out)
              have HKu := Lib.hid (HK3.out.step W.below)
              clear hseen hgone hat x17 HXX HLV HSE HAT HM3 HB17 HK3
              generalize W.w = u at *
              have hput := put_set HSEu.out x
              rw [if_neg (of_decide_eq_false HNS.out), HTK.out] at hput
              obtain ⟨u2, hrun, hm2, hk2⟩ := hput
              have HS2 := Lib.hid hm2
              have HK2 := Lib.hid (HKu.out.trans hk2 fun _ _ e => .inl e)
              have HA2 : Hid (AMap u2 ba kvI La) := Lib.hid (HATu.out.block (hk2.block ba HATu.out.lt HBAS.out))
              have HB2 : Hid (u2.heap[b17]? = some (.cells #[.int .i64 (x.1 : Int), .int .u64 (x.2 : Int)] 32 (0, 0))) := Lib.hid ((hk2.block b17 (lt_heap HBu.out) (fun e => HB17S.out.1 e)).trans HBu.out)
              have HG2 : Hid (AMap u2 bg kvH (asetL G)) := Lib.hid (HMu.out.mp.block (hk2.block bg HMu.out.mp.lt HBGS.out.1))
              clear hm2 hk2
              go_upto_region 29 with (first
                | (refine wpList_load_row rfl 32 (.tmp 17) rfl b17 rfl 32 #[.int .i64 (x.1 : Int), .int .u64 (x.2 : Int)] (0, 0) _ HBu.out Try.underlying32 rfl (by kernel_rfl) ?_))
              clear hrun HSEu HATu HMu HBu HKu
              try simp only [Act.put]
              have HX17 : Hid (u2.drew.cell? ⟨b17, 0, none⟩ = some (.int .i64 (x.1 : Int))) := Lib.hid (blk_cell HB2.out 0)
              have HLA : Hid ((Instr.lookup 48 (.map (some ba)) (.int .i64 (x.1 : Int)) false).run Try.prog u2.drew = .ok (.bool false) u2.drew) := Lib.hid (by
                rw [look_at (w := u2.drew) (HA2.out.block rfl), HAG.out])
              have HLG : Hid ((Instr.lookup 46 (.map (some bg)) (.agg #[.int .i64 (x.1 : Int), .int .u64 (x.2 : Int)]) false).run Try.prog u2.drew = .ok (.bool false) u2.drew) := Lib.hid (by
                rw [look_set (w := u2.drew) (HG2.out.block rfl), HDG.out])
              obtain ⟨u3, hrun3, hm3, hk3⟩ := put_at (w := u2.drew) (HA2.out.block rfl) x.1 (.bool true)
              have HRUN := Lib.hid hrun3
              have HA3 := Lib.hid hm3
              have HS3 : Hid (AMap u3 bs kvH (asetL (hs.take (j + 1)))) := Lib.hid (HS2.out.block (hk3.block bs HS2.out.lt (fun e => HBAS.out e.symm)))
              have HK3 : Hid (Kept (fun k => k = bs ∨ k = ba) v u3) := Lib.hid (HK2.out.drew.trans hk3 fun _ _ e => .inr e)
              clear hrun3 hm3 hk3
              rename_i Kc hKc
              refine wp_region_invW (fun a0 l a W => l.size = 14 ∧ a0.tmps.size = 150 ∧ ((l.getD 13 false = false ∧ W = u2.drew) ∨ (l.getD 13 false = true ∧ (∀ j, j < 13 → l.getD j false = true) ∧ W = u3)) ∧ FrU a0 ([(0, 126, .map (some ba)), (1, 127, .pointer (some ⟨b17, 0, none⟩)), (2, 128, .int .i64 (x.1 : Int)), (3, 129, .map (some ba)), (4, 130, .pointer (some ⟨b17, 0, none⟩)), (5, 131, .int .i64 (x.1 : Int)), (6, 132, .bool false), (7, 133, .bool false), (8, 134, .map (some bg)), (9, 135, .agg #[.int .i64 (x.1 : Int), .int .u64 (x.2 : Int)]), (10, 136, .bool false), (11, 137, .bool true), (12, 138, .bool true)] : List (Nat × Nat × Value)) l a) ?_ ?_ ?_ ?_ ?_ ?_
              · kernel_rfl
              · exact fun _ _ _ h => h.1
              · kernel_rfl
              · exact ⟨by simp, rfl, .inl ⟨getD_none _ _, rfl⟩, FrU.start _ _ _⟩
              · intro l a W i5 o hI ho hn hdep
                obtain ⟨hl, hsz, hW, hF⟩ := hI
                match i5, ho, hn with
                | 0, ho, hn =>
                  simp only [List.getElem?_toArray, List.getElem?_cons_zero, Option.some.injEq] at ho
                  subst ho
                  obtain ⟨hz, rfl⟩ : l.getD 13 false = false ∧ W = u2.drew := by
                    rcases hW with h | ⟨_, h, _⟩
                    · exact h
                    · have := h 0 (by decide)
                      rw [getD_no hn] at this
                      cases this
                  refine .inl ⟨rfl, ?_⟩
                  have h15 : a.tmps[15]?.getD undef = .map (some ba) := hF.base 15 (by simp) rfl
                  exact owp_value (.map (some ba)) (w' := u2.drew) (by clear hdep; go_simp) ⟨by simp [hl], hsz, .inl ⟨by rw [getD_set (by decide)]; exact hz, rfl⟩, hF.put 0 126 _ (by rw [hsz]; decide) (by simp) (by simp) (by simp)⟩
                | 1, ho, hn =>
                  simp only [List.getElem?_toArray, List.getElem?_cons_zero, List.getElem?_cons_succ, Option.some.injEq] at ho
                  subst ho
                  obtain ⟨hz, rfl⟩ : l.getD 13 false = false ∧ W = u2.drew := by
                    rcases hW with h | ⟨_, h, _⟩
                    · exact h
                    · have := h 1 (by decide)
                      rw [getD_no hn] at this
                      cases this
                  refine .inl ⟨rfl, ?_⟩
                  have h17 : a.tmps[17]?.getD undef = .pointer (some ⟨b17, 0, none⟩) := hF.base 17 (by simp) rfl
                  exact owp_value (.pointer (some ⟨b17, 0, none⟩)) (w' := u2.drew) (by clear hdep; go_simp) ⟨by simp [hl], hsz, .inl ⟨by rw [getD_set (by decide)]; exact hz, rfl⟩, hF.put 1 127 _ (by rw [hsz]; decide) (by simp) (by simp) (by simp)⟩
                | 2, ho, hn =>
                  simp only [List.getElem?_toArray, List.getElem?_cons_zero, List.getElem?_cons_succ, Option.some.injEq] at ho
                  subst ho
                  obtain ⟨hz, rfl⟩ : l.getD 13 false = false ∧ W = u2.drew := by
                    rcases hW with h | ⟨_, h, _⟩
                    · exact h
                    · have := h 2 (by decide)
                      rw [getD_no hn] at this
                      cases this
                  refine .inl ⟨rfl, ?_⟩
                  have h127 := hF.slot (i := 1) (s := 127) (v := .pointer (some ⟨b17, 0, none⟩)) (by simp) (hdep ⟨1, .data⟩ (by simp) rfl)
                  have hx := HX17.out
                  exact owp_value (.int .i64 (x.1 : Int)) (w' := u2.drew) (by clear hdep; go_simp) ⟨by simp [hl], hsz, .inl ⟨by rw [getD_set (by decide)]; exact hz, rfl⟩, hF.put 2 128 _ (by rw [hsz]; decide) (by simp) (by simp) (by simp)⟩
                | 3, ho, hn =>
                  simp only [List.getElem?_toArray, List.getElem?_cons_zero, List.getElem?_cons_succ, Option.some.injEq] at ho
                  subst ho
                  obtain ⟨hz, rfl⟩ : l.getD 13 false = false ∧ W = u2.drew := by
                    rcases hW with h | ⟨_, h, _⟩
                    · exact h
                    · have := h 3 (by decide)
                      rw [getD_no hn] at this
                      cases this
                  refine .inl ⟨rfl, ?_⟩
                  have h15 : a.tmps[15]?.getD undef = .map (some ba) := hF.base 15 (by simp) rfl
                  exact owp_value (.map (some ba)) (w' := u2.drew) (by clear hdep; go_simp) ⟨by simp [hl], hsz, .inl ⟨by rw [getD_set (by decide)]; exact hz, rfl⟩, hF.put 3 129 _ (by rw [hsz]; decide) (by simp) (by simp) (by simp)⟩
                | 4, ho, hn =>
                  simp only [List.getElem?_toArray, List.getElem?_cons_zero, List.getElem?_cons_succ, Option.some.injEq] at ho
                  subst ho
                  obtain ⟨hz, rfl⟩ : l.getD 13 false = false ∧ W = u2.drew := by
                    rcases hW with h | ⟨_, h, _⟩
                    · exact h
                    · have := h 4 (by decide)
                      rw [getD_no hn] at this
                      cases this
                  refine .inl ⟨rfl, ?_⟩
                  have h17 : a.tmps[17]?.getD undef = .pointer (some ⟨b17, 0, none⟩) := hF.base 17 (by simp) rfl
                  exact owp_value (.pointer (some ⟨b17, 0, none⟩)) (w' := u2.drew) (by clear hdep; go_simp) ⟨by simp [hl], hsz, .inl ⟨by rw [getD_set (by decide)]; exact hz, rfl⟩, hF.put 4 130 _ (by rw [hsz]; decide) (by simp) (by simp) (by simp)⟩
                | 5, ho, hn =>
                  simp only [List.getElem?_toArray, List.getElem?_cons_zero, List.getElem?_cons_succ, Option.some.injEq] at ho
                  subst ho
                  obtain ⟨hz, rfl⟩ : l.getD 13 false = false ∧ W = u2.drew := by
                    rcases hW with h | ⟨_, h, _⟩
                    · exact h
                    · have := h 5 (by decide)
                      rw [getD_no hn] at this
                      cases this
                  refine .inl ⟨rfl, ?_⟩
                  have h130 := hF.slot (i := 4) (s := 130) (v := .pointer (some ⟨b17, 0, none⟩)) (by simp) (hdep ⟨4, .data⟩ (by simp) rfl)
                  have hx := HX17.out
                  exact owp_value (.int .i64 (x.1 : Int)) (w' := u2.drew) (by clear hdep; go_simp) ⟨by simp [hl], hsz, .inl ⟨by rw [getD_set (by decide)]; exact hz, rfl⟩, hF.put 5 131 _ (by rw [hsz]; decide) (by simp) (by simp) (by simp)⟩
                | 6, ho, hn =>
                  simp only [List.getElem?_toArray, List.getElem?_cons_zero, List.getElem?_cons_succ, Option.some.injEq] at ho
                  subst ho
                  obtain ⟨hz, rfl⟩ : l.getD 13 false = false ∧ W = u2.drew := by
                    rcases hW with h | ⟨_, h, _⟩
                    · exact h
                    · have := h 6 (by decide)
                      rw [getD_no hn] at this
                      cases this
                  refine .inl ⟨rfl, ?_⟩
                  have h129 := hF.slot (i := 3) (s := 129) (v := .map (some ba)) (by simp) (hdep ⟨3, .data⟩ (by simp) rfl)
                  have h131 := hF.slot (i := 5) (s := 131) (v := .int .i64 (x.1 : Int)) (by simp) (hdep ⟨5, .data⟩ (by simp) rfl)
                  have hlk := HLA.out
                  exact owp_value (.bool false) (w' := u2.drew) (by clear hdep; go_simp) ⟨by simp [hl], hsz, .inl ⟨by rw [getD_set (by decide)]; exact hz, rfl⟩, hF.put 6 132 _ (by rw [hsz]; decide) (by simp) (by simp) (by simp)⟩
                | 7, ho, hn =>
                  simp only [List.getElem?_toArray, List.getElem?_cons_zero, List.getElem?_cons_succ, Option.some.injEq] at ho
                  subst ho
                  obtain ⟨hz, rfl⟩ : l.getD 13 false = false ∧ W = u2.drew := by
                    rcases hW with h | ⟨_, h, _⟩
                    · exact h
                    · have := h 7 (by decide)
                      rw [getD_no hn] at this
                      cases this
                  refine .inl ⟨rfl, ?_⟩
                  have h132 := hF.slot (i := 6) (s := 132) (v := .bool false) (by simp) (hdep ⟨6, .data⟩ (by simp) rfl)
                  exact owp_value (.bool false) (w' := u2.drew) (by clear hdep; go_simp) ⟨by simp [hl], hsz, .inl ⟨by rw [getD_set (by decide)]; exact hz, rfl⟩, hF.put 7 133 _ (by rw [hsz]; decide) (by simp) (by simp) (by simp)⟩
                | 8, ho, hn =>
                  simp only [List.getElem?_toArray, List.getElem?_cons_zero, List.getElem?_cons_succ, Option.some.injEq] at ho
                  subst ho
                  obtain ⟨hz, rfl⟩ : l.getD 13 false = false ∧ W = u2.drew := by
                    rcases hW with h | ⟨_, h, _⟩
                    · exact h
                    · have := h 8 (by decide)
                      rw [getD_no hn] at this
                      cases this
                  refine .inl ⟨wanted_of (j := 7) (s := 133) (b := false) rfl rfl rfl (hF.slot (v := .bool false) (by simp) (hdep ⟨7, .guard⟩ (by simp) rfl)), ?_⟩
                  have h8 : a.tmps[8]?.getD undef = .map (some bg) := hF.base 8 (by simp) rfl
                  exact owp_value (.map (some bg)) (w' := u2.drew) (by clear hdep; go_simp) ⟨by simp [hl], hsz, .inl ⟨by rw [getD_set (by decide)]; exact hz, rfl⟩, hF.put 8 134 _ (by rw [hsz]; decide) (by simp) (by simp) (by simp)⟩
                | 9, ho, hn =>
                  simp only [List.getElem?_toArray, List.getElem?_cons_zero, List.getElem?_cons_succ, Option.some.injEq] at ho
                  subst ho
                  obtain ⟨hz, rfl⟩ : l.getD 13 false = false ∧ W = u2.drew := by
                    rcases hW with h | ⟨_, h, _⟩
                    · exact h
                    · have := h 9 (by decide)
                      rw [getD_no hn] at this
                      cases this
                  refine .inl ⟨wanted_of (j := 7) (s := 133) (b := false) rfl rfl rfl (hF.slot (v := .bool false) (by simp) (hdep ⟨7, .guard⟩ (by simp) rfl)), ?_⟩
                  have h17 : a.tmps[17]?.getD undef = .pointer (some ⟨b17, 0, none⟩) := hF.base 17 (by simp) rfl
                  have hld := run_loadVar_row u2.drew b17 32 32 #[.int .i64 (x.1 : Int), .int .u64 (x.2 : Int)] (0, 0) _ HB2.out Try.underlying32 rfl (by kernel_rfl)
                  refine owp_value (.agg #[.int .i64 (x.1 : Int), .int .u64 (x.2 : Int)]) (w' := u2.drew) ?_ ⟨by simp [hl], hsz, .inl ⟨by rw [getD_set (by decide)]; exact hz, rfl⟩, hF.put 9 135 _ (by rw [hsz]; decide) (by simp) (by simp) (by simp)⟩
                  clear hdep
                  simp only [execOp, Act.eval, Array.getD_eq_getD_getElem?, h17, Instr.loadAt, Instr.sureAddr, Sem.run_bind, Sem.run_pure, Result.andThen_ok, hld]
                  all_goals rfl
                | 10, ho, hn =>
                  simp only [List.getElem?_toArray, List.getElem?_cons_zero, List.getElem?_cons_succ, Option.some.injEq] at ho
                  subst ho
                  obtain ⟨hz, rfl⟩ : l.getD 13 false = false ∧ W = u2.drew := by
                    rcases hW with h | ⟨_, h, _⟩
                    · exact h
                    · have := h 10 (by decide)
                      rw [getD_no hn] at this
                      cases this
                  refine .inl ⟨wanted_of (j := 7) (s := 133) (b := false) rfl rfl rfl (hF.slot (v := .bool false) (by simp) (hdep ⟨7, .guard⟩ (by simp) rfl)), ?_⟩
                  have h134 := hF.slot (i := 8) (s := 134) (v := .map (some bg)) (by simp) (hdep ⟨8, .data⟩ (by simp) rfl)
                  have h135 := hF.slot (i := 9) (s := 135) (v := .agg #[.int .i64 (x.1 : Int), .int .u64 (x.2 : Int)]) (by simp) (hdep ⟨9, .data⟩ (by simp) rfl)
                  have hlk := HLG.out
                  exact owp_value (.bool false) (w' := u2.drew) (by clear hdep; go_simp) ⟨by simp [hl], hsz, .inl ⟨by rw [getD_set (by decide)]; exact hz, rfl⟩, hF.put 10 136 _ (by rw [hsz]; decide) (by simp) (by simp) (by simp)⟩
                | 11, ho, hn =>
                  simp only [List.getElem?_toArray, List.getElem?_cons_zero, List.getElem?_cons_succ, Option.some.injEq] at ho
                  subst ho
                  obtain ⟨hz, rfl⟩ : l.getD 13 false = false ∧ W = u2.drew := by
                    rcases hW with h | ⟨_, h, _⟩
                    · exact h
                    · have := h 11 (by decide)
                      rw [getD_no hn] at this
                      cases this
                  refine .inl ⟨wanted_of (j := 7) (s := 133) (b := false) rfl rfl rfl (hF.slot (v := .bool false) (by simp) (hdep ⟨7, .guard⟩ (by simp) rfl)), ?_⟩
                  have h136 := hF.slot (i := 10) (s := 136) (v := .bool false) (by simp) (hdep ⟨10, .data⟩ (by simp) rfl)
                  exact owp_value (.bool true) (w' := u2.drew) (by clear hdep; go_simp) ⟨by simp [hl], hsz, .inl ⟨by rw [getD_set (by decide)]; exact hz, rfl⟩, hF.put 11 137 _ (by rw [hsz]; decide) (by simp) (by simp) (by simp)⟩
                | 12, ho, hn =>
                  simp only [List.getElem?_toArray, List.getElem?_cons_zero, List.getElem?_cons_succ, Option.some.injEq] at ho
                  subst ho
                  obtain ⟨hz, rfl⟩ : l.getD 13 false = false ∧ W = u2.drew := by
                    rcases hW with h | ⟨_, h, _⟩
                    · exact h
                    · have := h 12 (by decide)
                      rw [getD_no hn] at this
                      cases this
                  refine .inl ⟨rfl, ?_⟩
                  have h133 := hF.slot (i := 7) (s := 133) (v := .bool false) (by simp) (hdep ⟨7, .data⟩ (by simp) rfl)
                  have h137 := hF.slot (i := 11) (s := 137) (v := .bool true) (by simp) (hdep ⟨11, .data⟩ (by simp) rfl)
                  exact owp_value (.bool true) (w' := u2.drew) (by clear hdep; go_simp) ⟨by simp [hl], hsz, .inl ⟨by rw [getD_set (by decide)]; exact hz, rfl⟩, hF.put 12 138 _ (by rw [hsz]; decide) (by simp) (by simp) (by simp)⟩
                | 13, ho, hn =>
                  simp only [List.getElem?_toArray, List.getElem?_cons_zero, List.getElem?_cons_succ, Option.some.injEq] at ho
                  subst ho
                  obtain ⟨hz, rfl⟩ : l.getD 13 false = false ∧ W = u2.drew := by
                    rcases hW with h | ⟨h, _⟩
                    · exact h
                    · rw [getD_no hn] at h
                      cases h
                  refine .inl ⟨rfl, ?_⟩
                  have h126 := hF.slot (i := 0) (s := 126) (v := .map (some ba)) (by simp) (hdep ⟨0, .data⟩ (by simp) rfl)
                  have h128 := hF.slot (i := 2) (s := 128) (v := .int .i64 (x.1 : Int)) (by simp) (hdep ⟨2, .data⟩ (by simp) rfl)
                  have h138 := hF.slot (i := 12) (s := 138) (v := .bool true) (by simp) (hdep ⟨12, .data⟩ (by simp) rfl)
                  have hlk := HRUN.out
                  refine owp_skip (w' := u3) (by clear hdep; go_simp) ⟨by simp [hl], hsz, .inr ⟨getD_set_self hn, fun j hj => ?_, rfl⟩, hF.skip 13 (by simp)⟩
                  rw [getD_set (by omega)]
                  match j, hj with
                  | 0, _ => exact hdep ⟨0, .phase⟩ (by simp) rfl
                  | 1, _ => exact hdep ⟨1, .phase⟩ (by simp) rfl
                  | 2, _ => exact hdep ⟨2, .phase⟩ (by simp) rfl
                  | 3, _ => exact hdep ⟨3, .phase⟩ (by simp) rfl
                  | 4, _ => exact hdep ⟨4, .phase⟩ (by simp) rfl
                  | 5, _ => exact hdep ⟨5, .phase⟩ (by simp) rfl
                  | 6, _ => exact hdep ⟨6, .phase⟩ (by simp) rfl
                  | 7, _ => exact hdep ⟨7, .phase⟩ (by simp) rfl
                  | 8, _ => exact hdep ⟨8, .phase⟩ (by simp) rfl
                  | 9, _ => exact hdep ⟨9, .phase⟩ (by simp) rfl
                  | 10, _ => exact hdep ⟨10, .phase⟩ (by simp) rfl
                  | 11, _ => exact hdep ⟨11, .phase⟩ (by simp) rfl
                  | 12, _ => exact hdep ⟨12, .phase⟩ (by simp) rfl
                  | j + 13, h => exact absurd h (by omega)
                | i5 + 14, ho, hn => simp at ho
              · intro l a W1 hI hall
                obtain ⟨hl, hsz, hW, hF⟩ := hI
                have hall : ∀ i, i < 14 → l.getD i false = true := hall
                have ha := hF.all (by simp only [List.mem_cons, List.not_mem_nil, or_false]; rintro x (rfl | rfl | rfl | rfl | rfl | rfl | rfl | rfl | rfl | rfl | rfl | rfl | rfl) <;> exact hall _ (by dsimp only; decide)) (by simp) (by rw [hsz]; simp)
                subst ha
                obtain rfl : W1 = u3 := by
                  rcases hW with ⟨h, _⟩ | ⟨_, _, h⟩
                  · rw [hall 13 (by decide)] at h
                    cases h
                  · exact h
                clear hF hall hl hsz hW
                refine hKc _ _ ?_
                simp only [setAll, List.setIfInBounds_toArray, List.set_cons_succ, List.set_cons_zero]
                go_wp2_with fail
                go_roundw
                case rel => exact ⟨j + 1, _, by omega, by go_num, HK3.out, HS3.out, HA3.out, fun i => by rw [aget_put, HALL.out]; exact HANY.out i⟩
                case measure => simp [intOf]; omega
            | false =>
              have HLL := Lib.hid hl
              have HDG : Hid (decide (x ∈ G) = true) := Lib.hid (decide_eq_true ((HS.out.2.2.2.2.mem x).2 ⟨List.mem_of_getElem? HX.out, HLL.out⟩))
              clear hl
              cases hb : (hs.take j).any (fun y => y.1 == x.1 && s.live (y.1 : Int) y.2) with
              | true =>
                have HBE := Lib.hid hb
                have HAG : Hid (aget x.1 La = .bool true) := Lib.hid (by rw [HALL.out, HBE.out])
                have HANY : Hid (∀ i, (if i = x.1 then Value.bool true else .bool ((hs.take j).any fun y => y.1 == i && s.live (y.1 : Int) y.2)) = .bool ((hs.take (j + 1)).any fun y => y.1 == i && s.live (y.1 : Int) y.2)) := Lib.hid fun i => any_step HTK.out HLL.out i (by intro e; rw [e, HBE.out]; rfl)
                clear hb
                have hseen : ∀ W : Stay v3, (Instr.lookup 46 (.map (some bs)) (.agg #[.int .i64 (x.1 : Int), .int .u64 (x.2 : Int)]) false).run Try.prog W.w = .ok (.bool false) W.w := fun W => by
                  rw [look_set (HSE.out.step W.below), HNS.out]
                have hgone : ∀ W : Stay v3, (Instr.lookup 46 (.map (some bg)) (.agg #[.int .i64 (x.1 : Int), .int .u64 (x.2 : Int)]) false).run Try.prog W.w = .ok (.bool true) W.w := fun W => by
                  rw [look_set (HM3.out.mp.step W.below), HDG.out]
                have x17 : ∀ W : Stay v3, W.w.cell? ⟨b17, 0, none⟩ = some (.int .i64 (x.1 : Int)) := fun W => Stay.cell (blk_cell HB17.out 0) W
                have HXX := Lib.hid (stay_hp HB17.out)
                have HLV : Hid (∀ W : Stay v3, Calls Try.prog 18 #[.pointer (some ⟨p, 0, none⟩), .agg #[.int .i64 (x.1 : Int), .int .u64 (x.2 : Int)]] W.w fun e w' => e = .returned (.bool false) ∧ Below W.w.heap.size W.w w') := Lib.hid fun W => by
                  obtain ⟨F, hF, _⟩ := (HM3.out.step W.below).st
                  have h := plive_any hF HSN.out (x.1 : Int) x.2
                  rw [HLL.out] at h
                  exact h
                refine wp_region_stay (by kernel_rfl) (by kernel_rfl) ?_
                repeat (first
                  | (refine qh_row rfl 32 (.tmp 17) rfl b17 rfl 32 #[.int .i64 (x.1 : Int), .int .u64 (x.2 : Int)] (0, 0) _ HXX.out Try.underlying32 rfl (by kernel_rfl) ?_
                     simp only [Act.put, List.setIfInBounds_toArray, List.set_cons_zero, List.set_cons_succ])
                  | go_big_quiet_step (first | (go_at_call 18; with_reducible exact Calls.stay _ (HLV.out _))))
                refine wpQuiet_nil ?_
                intro w' hw'
                obtain ⟨W, rfl⟩ := hw'
                go_upto_region 28 with fail
                have HSEu := Lib.hid (HSE.out.step W.below)
                have HATu := Lib.hid (HAT.out.step W.below)
                have HMu := Lib.hid (HM3.out.step W.below)
                have HBu : Hid (W.w.heap[b17]? = some (.cells #[.int .i64 (x.1 : Int), .int .u64 (x.2 : Int)] 32 (0, 0))) := Lib.hid ((W.below.block _ (lt_heap HB17.out)).trans HB17.out)
                have HKu := Lib.hid (HK3.out.step W.below)
                clear hseen hgone x17 HXX HLV HSE HAT HM3 HB17 HK3
                generalize W.w = u at *
                have hput := put_set HSEu.out x
                rw [if_neg (of_decide_eq_false HNS.out), HTK.out] at hput
                obtain ⟨u2, hrun, hm2, hk2⟩ := hput
                have HS2 := Lib.hid hm2
                have HK2 := Lib.hid (HKu.out.trans hk2 fun _ _ e => .inl e)
                have HA2 : Hid (AMap u2 ba kvI La) := Lib.hid (HATu.out.block (hk2.block ba HATu.out.lt HBAS.out))
                have HB2 : Hid (u2.heap[b17]? = some (.cells #[.int .i64 (x.1 : Int), .int .u64 (x.2 : Int)] 32 (0, 0))) := Lib.hid ((hk2.block b17 (lt_heap HBu.out) (fun e => HB17S.out.1 e)).trans HBu.out)
                have HG2 : Hid (AMap u2 bg kvH (asetL G)) := Lib.hid (HMu.out.mp.block (hk2.block bg HMu.out.mp.lt HBGS.out.1))
                clear hm2 hk2
                go_upto_region 29 with (first
                  | (refine wpList_load_row rfl 32 (.tmp 17) rfl b17 rfl 32 #[.int .i64 (x.1 : Int), .int .u64 (x.2 : Int)] (0, 0) _ HBu.out Try.underlying32 rfl (by kernel_rfl) ?_))
                clear hrun HSEu HATu HMu HBu HKu
                try simp only [Act.put]
                have HX17 : Hid (u2.drew.cell? ⟨b17, 0, none⟩ = some (.int .i64 (x.1 : Int))) := Lib.hid (blk_cell HB2.out 0)
                have HLA : Hid ((Instr.lookup 48 (.map (some ba)) (.int .i64 (x.1 : Int)) false).run Try.prog u2.drew = .ok (.bool true) u2.drew) := Lib.hid (by
                  rw [look_at (w := u2.drew) (HA2.out.block rfl), HAG.out])
                have HLG : Hid ((Instr.lookup 46 (.map (some bg)) (.agg #[.int .i64 (x.1 : Int), .int .u64 (x.2 : Int)]) false).run Try.prog u2.drew = .ok (.bool true) u2.drew) := Lib.hid (by
                  rw [look_set (w := u2.drew) (HG2.out.block rfl), HDG.out])
                obtain ⟨u3, hrun3, hm3, hk3⟩ := put_at (w := u2.drew) (HA2.out.block rfl) x.1 (.bool true)
                have HRUN := Lib.hid hrun3
                have HA3 := Lib.hid hm3
                have HS3 : Hid (AMap u3 bs kvH (asetL (hs.take (j + 1)))) := Lib.hid (HS2.out.block (hk3.block bs HS2.out.lt (fun e => HBAS.out e.symm)))
                have HK3 : Hid (Kept (fun k => k = bs ∨ k = ba) v u3) := Lib.hid (HK2.out.drew.trans hk3 fun _ _ e => .inr e)
                clear hrun3 hm3 hk3
                rename_i Kc hKc
                refine wp_region_invW (fun a0 l a W => l.size = 14 ∧ a0.tmps.size = 150 ∧ ((l.getD 13 false = false ∧ W = u2.drew) ∨ (l.getD 13 false = true ∧ (∀ j, j < 13 → l.getD j false = true) ∧ W = u3)) ∧ FrU a0 ([(0, 126, .map (some ba)), (1, 127, .pointer (some ⟨b17, 0, none⟩)), (2, 128, .int .i64 (x.1 : Int)), (3, 129, .map (some ba)), (4, 130, .pointer (some ⟨b17, 0, none⟩)), (5, 131, .int .i64 (x.1 : Int)), (6, 132, .bool true), (7, 133, .bool true), (8, 134, undef), (9, 135, undef), (10, 136, undef), (11, 137, undef), (12, 138, .bool true)] : List (Nat × Nat × Value)) l a) ?_ ?_ ?_ ?_ ?_ ?_
                · kernel_rfl
                · exact fun _ _ _ h => h.1
                · kernel_rfl
                · exact ⟨by simp, rfl, .inl ⟨getD_none _ _, rfl⟩, FrU.start _ _ _⟩
                · intro l a W i5 o hI ho hn hdep
                  obtain ⟨hl, hsz, hW, hF⟩ := hI
                  match i5, ho, hn with
                  | 0, ho, hn =>
                    simp only [List.getElem?_toArray, List.getElem?_cons_zero, Option.some.injEq] at ho
                    subst ho
                    obtain ⟨hz, rfl⟩ : l.getD 13 false = false ∧ W = u2.drew := by
                      rcases hW with h | ⟨_, h, _⟩
                      · exact h
                      · have := h 0 (by decide)
                        rw [getD_no hn] at this
                        cases this
                    refine .inl ⟨rfl, ?_⟩
                    have h15 : a.tmps[15]?.getD undef = .map (some ba) := hF.base 15 (by simp) rfl
                    exact owp_value (.map (some ba)) (w' := u2.drew) (by clear hdep; go_simp) ⟨by simp [hl], hsz, .inl ⟨by rw [getD_set (by decide)]; exact hz, rfl⟩, hF.put 0 126 _ (by rw [hsz]; decide) (by simp) (by simp) (by simp)⟩
                  | 1, ho, hn =>
                    simp only [List.getElem?_toArray, List.getElem?_cons_zero, List.getElem?_cons_succ, Option.some.injEq] at ho
                    subst ho
                    obtain ⟨hz, rfl⟩ : l.getD 13 false = false ∧ W = u2.drew := by
                      rcases hW with h | ⟨_, h, _⟩
                      · exact h
                      · have := h 1 (by decide)
                        rw [getD_no hn] at this
                        cases this
                    refine .inl ⟨rfl, ?_⟩
                    have h17 : a.tmps[17]?.getD undef = .pointer (some ⟨b17, 0, none⟩) := hF.base 17 (by simp) rfl
                    exact owp_value (.pointer (some ⟨b17, 0, none⟩)) (w' := u2.drew) (by clear hdep; go_simp) ⟨by simp [hl], hsz, .inl ⟨by rw [getD_set (by decide)]; exact hz, rfl⟩, hF.put 1 127 _ (by rw [hsz]; decide) (by simp) (by simp) (by simp)⟩
                  | 2, ho, hn =>
                    simp only [List.getElem?_toArray, List.getElem?_cons_zero, List.getElem?_cons_succ, Option.some.injEq] at ho
                    subst ho
                    obtain ⟨hz, rfl⟩ : l.getD 13 false = false ∧ W = u2.drew := by
                      rcases hW with h | ⟨_, h, _⟩
                      · exact h
                      · have := h 2 (by decide)
                        rw [getD_no hn] at this
                        cases this
                    refine .inl ⟨rfl, ?_⟩
                    have h127 := hF.slot (i := 1) (s := 127) (v := .pointer (some ⟨b17, 0, none⟩)) (by simp) (hdep ⟨1, .data⟩ (by simp) rfl)
                    have hx := HX17.out
                    exact owp_value (.int .i64 (x.1 : Int)) (w' := u2.drew) (by clear hdep; go_simp) ⟨by simp [hl], hsz, .inl ⟨by rw [getD_set (by decide)]; exact hz, rfl⟩, hF.put 2 128 _ (by rw [hsz]; decide) (by simp) (by simp) (by simp)⟩
                  | 3, ho, hn =>
                    simp only [List.getElem?_toArray, List.getElem?_cons_zero, List.getElem?_cons_succ, Option.some.injEq] at ho
                    subst ho
                    obtain ⟨hz, rfl⟩ : l.getD 13 false = false ∧ W = u2.drew := by
                      rcases hW with h | ⟨_, h, _⟩
                      · exact h
                      · have := h 3 (by decide)
                        rw [getD_no hn] at this
                        cases this
                    refine .inl ⟨rfl, ?_⟩
                    have h15 : a.tmps[15]?.getD undef = .map (some ba) := hF.base 15 (by simp) rfl
                    exact owp_value (.map (some ba)) (w' := u2.drew) (by clear hdep; go_simp) ⟨by simp [hl], hsz, .inl ⟨by rw [getD_set (by decide)]; exact hz, rfl⟩, hF.put 3 129 _ (by rw [hsz]; decide) (by simp) (by simp) (by simp)⟩
                  | 4, ho, hn =>
                    simp only [List.getElem?_toArray, List.getElem?_cons_zero, List.getElem?_cons_succ, Option.some.injEq] at ho
                    subst ho
                    obtain ⟨hz, rfl⟩ : l.getD 13 false = false ∧ W = u2.drew := by
                      rcases hW with h | ⟨_, h, _⟩
                      · exact h
                      · have := h 4 (by decide)
                        rw [getD_no hn] at this
                        cases this
                    refine .inl ⟨rfl, ?_⟩
                    have h17 : a.tmps[17]?.getD undef = .pointer (some ⟨b17, 0, none⟩) := hF.base 17 (by simp) rfl
                    exact owp_value (.pointer (some ⟨b17, 0, none⟩)) (w' := u2.drew) (by clear hdep; go_simp) ⟨by simp [hl], hsz, .inl ⟨by rw [getD_set (by decide)]; exact hz, rfl⟩, hF.put 4 130 _ (by rw [hsz]; decide) (by simp) (by simp) (by simp)⟩
                  | 5, ho, hn =>
                    simp only [List.getElem?_toArray, List.getElem?_cons_zero, List.getElem?_cons_succ, Option.some.injEq] at ho
                    subst ho
                    obtain ⟨hz, rfl⟩ : l.getD 13 false = false ∧ W = u2.drew := by
                      rcases hW with h | ⟨_, h, _⟩
                      · exact h
                      · have := h 5 (by decide)
                        rw [getD_no hn] at this
                        cases this
                    refine .inl ⟨rfl, ?_⟩
                    have h130 := hF.slot (i := 4) (s := 130) (v := .pointer (some ⟨b17, 0, none⟩)) (by simp) (hdep ⟨4, .data⟩ (by simp) rfl)
                    have hx := HX17.out
                    exact owp_value (.int .i64 (x.1 : Int)) (w' := u2.drew) (by clear hdep; go_simp) ⟨by simp [hl], hsz, .inl ⟨by rw [getD_set (by decide)]; exact hz, rfl⟩, hF.put 5 131 _ (by rw [hsz]; decide) (by simp) (by simp) (by simp)⟩
                  | 6, ho, hn =>
                    simp only [List.getElem?_toArray, List.getElem?_cons_zero, List.getElem?_cons_succ, Option.some.injEq] at ho
                    subst ho
                    obtain ⟨hz, rfl⟩ : l.getD 13 false = false ∧ W = u2.drew := by
                      rcases hW with h | ⟨_, h, _⟩
                      · exact h
                      · have := h 6 (by decide)
                        rw [getD_no hn] at this
                        cases this
                    refine .inl ⟨rfl, ?_⟩
                    have h129 := hF.slot (i := 3) (s := 129) (v := .map (some ba)) (by simp) (hdep ⟨3, .data⟩ (by simp) rfl)
                    have h131 := hF.slot (i := 5) (s := 131) (v := .int .i64 (x.1 : Int)) (by simp) (hdep ⟨5, .data⟩ (by simp) rfl)
                    have hlk := HLA.out
                    exact owp_value (.bool true) (w' := u2.drew) (by clear hdep; go_simp) ⟨by simp [hl], hsz, .inl ⟨by rw [getD_set (by decide)]; exact hz, rfl⟩, hF.put 6 132 _ (by rw [hsz]; decide) (by simp) (by simp) (by simp)⟩
                  | 7, ho, hn =>
                    simp only [List.getElem?_toArray, List.getElem?_cons_zero, List.getElem?_cons_succ, Option.some.injEq] at ho
                    subst ho
                    obtain ⟨hz, rfl⟩ : l.getD 13 false = false ∧ W = u2.drew := by
                      rcases hW with h | ⟨_, h, _⟩
                      · exact h
                      · have := h 7 (by decide)
                        rw [getD_no hn] at this
                        cases this
                    refine .inl ⟨rfl, ?_⟩
                    have h132 := hF.slot (i := 6) (s := 132) (v := .bool true) (by simp) (hdep ⟨6, .data⟩ (by simp) rfl)
                    exact owp_value (.bool true) (w' := u2.drew) (by clear hdep; go_simp) ⟨by simp [hl], hsz, .inl ⟨by rw [getD_set (by decide)]; exact hz, rfl⟩, hF.put 7 133 _ (by rw [hsz]; decide) (by simp) (by simp) (by simp)⟩
                  | 8, ho, hn =>
                    simp only [List.getElem?_toArray, List.getElem?_cons_zero, List.getElem?_cons_succ, Option.some.injEq] at ho
                    subst ho
                    obtain ⟨hz, rfl⟩ : l.getD 13 false = false ∧ W = u2.drew := by
                      rcases hW with h | ⟨_, h, _⟩
                      · exact h
                      · have := h 8 (by decide)
                        rw [getD_no hn] at this
                        cases this
                    refine .inr ⟨unwanted_of (j := 7) (s := 133) (b := true) rfl rfl rfl (hF.slot (v := .bool true) (by simp) (hdep ⟨7, .guard⟩ (by simp) rfl)) rfl, by simp [hl], hsz, .inl ⟨by rw [getD_set (by decide)]; exact hz, rfl⟩, hF.put 8 134 _ (by rw [hsz]; decide) (by simp) (by simp) (by simp)⟩
                  | 9, ho, hn =>
                    simp only [List.getElem?_toArray, List.getElem?_cons_zero, List.getElem?_cons_succ, Option.some.injEq] at ho
                    subst ho
                    obtain ⟨hz, rfl⟩ : l.getD 13 false = false ∧ W = u2.drew := by
                      rcases hW with h | ⟨_, h, _⟩
                      · exact h
                      · have := h 9 (by decide)
                        rw [getD_no hn] at this
                        cases this
                    refine .inr ⟨unwanted_of (j := 7) (s := 133) (b := true) rfl rfl rfl (hF.slot (v := .bool true) (by simp) (hdep ⟨7, .guard⟩ (by simp) rfl)) rfl, by simp [hl], hsz, .inl ⟨by rw [getD_set (by decide)]; exact hz, rfl⟩, hF.put 9 135 _ (by rw [hsz]; decide) (by simp) (by simp) (by simp)⟩
                  | 10, ho, hn =>
                    simp only [List.getElem?_toArray, List.getElem?_cons_zero, List.getElem?_cons_succ, Option.some.injEq] at ho
                    subst ho
                    obtain ⟨hz, rfl⟩ : l.getD 13 false = false ∧ W = u2.drew := by
                      rcases hW with h | ⟨_, h, _⟩
                      · exact h
                      · have := h 10 (by decide)
                        rw [getD_no hn] at this
                        cases this
                    refine .inr ⟨unwanted_of (j := 7) (s := 133) (b := true) rfl rfl rfl (hF.slot (v := .bool true) (by simp) (hdep ⟨7, .guard⟩ (by simp) rfl)) rfl, by simp [hl], hsz, .inl ⟨by rw [getD_set (by decide)]; exact hz, rfl⟩, hF.put 10 136 _ (by rw [hsz]; decide) (by simp) (by simp) (by simp)⟩
                  | 11, ho, hn =>
                    simp only [List.getElem?_toArray, List.getElem?_cons_zero, List.getElem?_cons_succ, Option.some.injEq] at ho
                    subst ho
                    obtain ⟨hz, rfl⟩ : l.getD 13 false = false ∧ W = u2.drew := by
                      rcases hW with h | ⟨_, h, _⟩
                      · exact h
                      · have := h 11 (by decide)
                        rw [getD_no hn] at this
                        cases this
                    refine .inr ⟨unwanted_of (j := 7) (s := 133) (b := true) rfl rfl rfl (hF.slot (v := .bool true) (by simp) (hdep ⟨7, .guard⟩ (by simp) rfl)) rfl, by simp [hl], hsz, .inl ⟨by rw [getD_set (by decide)]; exact hz, rfl⟩, hF.put 11 137 _ (by rw [hsz]; decide) (by simp) (by simp) (by simp)⟩
                  | 12, ho, hn =>
                    simp only [List.getElem?_toArray, List.getElem?_cons_zero, List.getElem?_cons_succ, Option.some.injEq] at ho
                    subst ho
                    obtain ⟨hz, rfl⟩ : l.getD 13 false = false ∧ W = u2.drew := by
                      rcases hW with h | ⟨_, h, _⟩
                      · exact h
                      · have := h 12 (by decide)
                        rw [getD_no hn] at this
                        cases this
                    refine .inl ⟨rfl, ?_⟩
                    have h133 := hF.slot (i := 7) (s := 133) (v := .bool true) (by simp) (hdep ⟨7, .data⟩ (by simp) rfl)
                    exact owp_value (.bool true) (w' := u2.drew) (by clear hdep; go_simp) ⟨by simp [hl], hsz, .inl ⟨by rw [getD_set (by decide)]; exact hz, rfl⟩, hF.put 12 138 _ (by rw [hsz]; decide) (by simp) (by simp) (by simp)⟩
                  | 13, ho, hn =>
                    simp only [List.getElem?_toArray, List.getElem?_cons_zero, List.getElem?_cons_succ, Option.some.injEq] at ho
                    subst ho
                    obtain ⟨hz, rfl⟩ : l.getD 13 false = false ∧ W = u2.drew := by
                      rcases hW with h | ⟨h, _⟩
                      · exact h
                      · rw [getD_no hn] at h
                        cases h
                    refine .inl ⟨rfl, ?_⟩
                    have h126 := hF.slot (i := 0) (s := 126) (v := .map (some ba)) (by simp) (hdep ⟨0, .data⟩ (by simp) rfl)
                    have h128 := hF.slot (i := 2) (s := 128) (v := .int .i64 (x.1 : Int)) (by simp) (hdep ⟨2, .data⟩ (by simp) rfl)
                    have h138 := hF.slot (i := 12) (s := 138) (v := .bool true) (by simp) (hdep ⟨12, .data⟩ (by simp) rfl)
                    have hlk := HRUN.out
                    refine owp_skip (w' := u3) (by clear hdep; go_simp) ⟨by simp [hl], hsz, .inr ⟨getD_set_self hn, fun j hj => ?_, rfl⟩, hF.skip 13 (by simp)⟩
                    rw [getD_set (by omega)]
                    match j, hj with
                    | 0, _ => exact hdep ⟨0, .phase⟩ (by simp) rfl
                    | 1, _ => exact hdep ⟨1, .phase⟩ (by simp) rfl
                    | 2, _ => exact hdep ⟨2, .phase⟩ (by simp) rfl
                    | 3, _ => exact hdep ⟨3, .phase⟩ (by simp) rfl
                    | 4, _ => exact hdep ⟨4, .phase⟩ (by simp) rfl
                    | 5, _ => exact hdep ⟨5, .phase⟩ (by simp) rfl
                    | 6, _ => exact hdep ⟨6, .phase⟩ (by simp) rfl
                    | 7, _ => exact hdep ⟨7, .phase⟩ (by simp) rfl
                    | 8, _ => exact hdep ⟨8, .phase⟩ (by simp) rfl
                    | 9, _ => exact hdep ⟨9, .phase⟩ (by simp) rfl
                    | 10, _ => exact hdep ⟨10, .phase⟩ (by simp) rfl
                    | 11, _ => exact hdep ⟨11, .phase⟩ (by simp) rfl
                    | 12, _ => exact hdep ⟨12, .phase⟩ (by simp) rfl
                    | j + 13, h => exact absurd h (by omega)
                  | i5 + 14, ho, hn => simp at ho
                · intro l a W1 hI hall
                  obtain ⟨hl, hsz, hW, hF⟩ := hI
                  have hall : ∀ i, i < 14 → l.getD i false = true := hall
                  have ha := hF.all (by simp only [List.mem_cons, List.not_mem_nil, or_false]; rintro x (rfl | rfl | rfl | rfl | rfl | rfl | rfl | rfl | rfl | rfl | rfl | rfl | rfl) <;> exact hall _ (by dsimp only; decide)) (by simp) (by rw [hsz]; simp)
                  subst ha
                  obtain rfl : W1 = u3 := by
                    rcases hW with ⟨h, _⟩ | ⟨_, _, h⟩
                    · rw [hall 13 (by decide)] at h
                      cases h
                    · exact h
                  clear hF hall hl hsz hW
                  refine hKc _ _ ?_
                  simp only [setAll, List.setIfInBounds_toArray, List.set_cons_succ, List.set_cons_zero]
                  go_wp2_with fail
                  go_roundw
                  case rel => exact ⟨j + 1, _, by omega, by go_num, HK3.out, HS3.out, HA3.out, fun i => by rw [aget_put, HALL.out]; exact HANY.out i⟩
                  case measure => simp [intOf]; omega
              | false =>
                have HBE := Lib.hid hb
                have HAG : Hid (aget x.1 La = .bool false) := Lib.hid (by rw [HALL.out, HBE.out])
                have HANY : Hid (∀ i, (if i = x.1 then Value.bool false else .bool ((hs.take j).any fun y => y.1 == i && s.live (y.1 : Int) y.2)) = .bool ((hs.take (j + 1)).any fun y => y.1 == i && s.live (y.1 : Int) y.2)) := Lib.hid fun i => any_step HTK.out HLL.out i (by intro e; rw [e, HBE.out]; rfl)
                clear hb
                have hseen : ∀ W : Stay v3, (Instr.lookup 46 (.map (some bs)) (.agg #[.int .i64 (x.1 : Int), .int .u64 (x.2 : Int)]) false).run Try.prog W.w = .ok (.bool false) W.w := fun W => by
                  rw [look_set (HSE.out.step W.below), HNS.out]
                have hgone : ∀ W : Stay v3, (Instr.lookup 46 (.map (some bg)) (.agg #[.int .i64 (x.1 : Int), .int .u64 (x.2 : Int)]) false).run Try.prog W.w = .ok (.bool true) W.w := fun W => by
                  rw [look_set (HM3.out.mp.step W.below), HDG.out]
                have x17 : ∀ W : Stay v3, W.w.cell? ⟨b17, 0, none⟩ = some (.int .i64 (x.1 : Int)) := fun W => Stay.cell (blk_cell HB17.out 0) W
                have HXX := Lib.hid (stay_hp HB17.out)
                have HLV : Hid (∀ W : Stay v3, Calls Try.prog 18 #[.pointer (some ⟨p, 0, none⟩), .agg #[.int .i64 (x.1 : Int), .int .u64 (x.2 : Int)]] W.w fun e w' => e = .returned (.bool false) ∧ Below W.w.heap.size W.w w') := Lib.hid fun W => by
                  obtain ⟨F, hF, _⟩ := (HM3.out.step W.below).st
                  have h := plive_any hF HSN.out (x.1 : Int) x.2
                  rw [HLL.out] at h
                  exact h
                refine wp_region_stay (by kernel_rfl) (by kernel_rfl) ?_
                repeat (first
                  | (refine qh_row rfl 32 (.tmp 17) rfl b17 rfl 32 #[.int .i64 (x.1 : Int), .int .u64 (x.2 : Int)] (0, 0) _ HXX.out Try.underlying32 rfl (by kernel_rfl) ?_
                     simp only [Act.put, List.setIfInBounds_toArray, List.set_cons_zero, List.set_cons_succ])
                  | go_big_quiet_step (first | (go_at_call 18; with_reducible exact Calls.stay _ (HLV.out _))))
                refine wpQuiet_nil ?_
                intro w' hw'
                obtain ⟨W, rfl⟩ := hw'
                go_upto_region 28 with fail
                have HSEu := Lib.hid (HSE.out.step W.below)
                have HATu := Lib.hid (HAT.out.step W.below)
                have HMu := Lib.hid (HM3.out.step W.below)
                have HBu : Hid (W.w.heap[b17]? = some (.cells #[.int .i64 (x.1 : Int), .int .u64 (x.2 : Int)] 32 (0, 0))) := Lib.hid ((W.below.block _ (lt_heap HB17.out)).trans HB17.out)
                have HKu := Lib.hid (HK3.out.step W.below)
                clear hseen hgone x17 HXX HLV HSE HAT HM3 HB17 HK3
                generalize W.w = u at *
                have hput := put_set HSEu.out x
                rw [if_neg (of_decide_eq_false HNS.out), HTK.out] at hput
                obtain ⟨u2, hrun, hm2, hk2⟩ := hput
                have HS2 := Lib.hid hm2
                have HK2 := Lib.hid (HKu.out.trans hk2 fun _ _ e => .inl e)
                have HA2 : Hid (AMap u2 ba kvI La) := Lib.hid (HATu.out.block (hk2.block ba HATu.out.lt HBAS.out))
                have HB2 : Hid (u2.heap[b17]? = some (.cells #[.int .i64 (x.1 : Int), .int .u64 (x.2 : Int)] 32 (0, 0))) := Lib.hid ((hk2.block b17 (lt_heap HBu.out) (fun e => HB17S.out.1 e)).trans HBu.out)
                have HG2 : Hid (AMap u2 bg kvH (asetL G)) := Lib.hid (HMu.out.mp.block (hk2.block bg HMu.out.mp.lt HBGS.out.1))
                clear hm2 hk2
                go_upto_region 29 with (first
                  | (refine wpList_load_row rfl 32 (.tmp 17) rfl b17 rfl 32 #[.int .i64 (x.1 : Int), .int .u64 (x.2 : Int)] (0, 0) _ HBu.out Try.underlying32 rfl (by kernel_rfl) ?_))
                clear hrun HSEu HATu HMu HBu HKu
                try simp only [Act.put]
                have HX17 : Hid (u2.drew.cell? ⟨b17, 0, none⟩ = some (.int .i64 (x.1 : Int))) := Lib.hid (blk_cell HB2.out 0)
                have HLA : Hid ((Instr.lookup 48 (.map (some ba)) (.int .i64 (x.1 : Int)) false).run Try.prog u2.drew = .ok (.bool false) u2.drew) := Lib.hid (by
                  rw [look_at (w := u2.drew) (HA2.out.block rfl), HAG.out])
                have HLG : Hid ((Instr.lookup 46 (.map (some bg)) (.agg #[.int .i64 (x.1 : Int), .int .u64 (x.2 : Int)]) false).run Try.prog u2.drew = .ok (.bool true) u2.drew) := Lib.hid (by
                  rw [look_set (w := u2.drew) (HG2.out.block rfl), HDG.out])
                obtain ⟨u3, hrun3, hm3, hk3⟩ := put_at (w := u2.drew) (HA2.out.block rfl) x.1 (.bool false)
                have HRUN := Lib.hid hrun3
                have HA3 := Lib.hid hm3
                have HS3 : Hid (AMap u3 bs kvH (asetL (hs.take (j + 1)))) := Lib.hid (HS2.out.block (hk3.block bs HS2.out.lt (fun e => HBAS.out e.symm)))
                have HK3 : Hid (Kept (fun k => k = bs ∨ k = ba) v u3) := Lib.hid (HK2.out.drew.trans hk3 fun _ _ e => .inr e)
                clear hrun3 hm3 hk3
                rename_i Kc hKc
                refine wp_region_invW (fun a0 l a W => l.size = 14 ∧ a0.tmps.size = 150 ∧ ((l.getD 13 false = false ∧ W = u2.drew) ∨ (l.getD 13 false = true ∧ (∀ j, j < 13 → l.getD j false = true) ∧ W = u3)) ∧ FrU a0 ([(0, 126, .map (some ba)), (1, 127, .pointer (some ⟨b17, 0, none⟩)), (2, 128, .int .i64 (x.1 : Int)), (3, 129, .map (some ba)), (4, 130, .pointer (some ⟨b17, 0, none⟩)), (5, 131, .int .i64 (x.1 : Int)), (6, 132, .bool false), (7, 133, .bool false), (8, 134, .map (some bg)), (9, 135, .agg #[.int .i64 (x.1 : Int), .int .u64 (x.2 : Int)]), (10, 136, .bool true), (11, 137, .bool false), (12, 138, .bool false)] : List (Nat × Nat × Value)) l a) ?_ ?_ ?_ ?_ ?_ ?_
                · kernel_rfl
                · exact fun _ _ _ h => h.1
                · kernel_rfl
                · exact ⟨by simp, rfl, .inl ⟨getD_none _ _, rfl⟩, FrU.start _ _ _⟩
                · intro l a W i5 o hI ho hn hdep
                  obtain ⟨hl, hsz, hW, hF⟩ := hI
                  match i5, ho, hn with
                  | 0, ho, hn =>
                    simp only [List.getElem?_toArray, List.getElem?_cons_zero, Option.some.injEq] at ho
                    subst ho
                    obtain ⟨hz, rfl⟩ : l.getD 13 false = false ∧ W = u2.drew := by
                      rcases hW with h | ⟨_, h, _⟩
                      · exact h
                      · have := h 0 (by decide)
                        rw [getD_no hn] at this
                        cases this
                    refine .inl ⟨rfl, ?_⟩
                    have h15 : a.tmps[15]?.getD undef = .map (some ba) := hF.base 15 (by simp) rfl
                    exact owp_value (.map (some ba)) (w' := u2.drew) (by clear hdep; go_simp) ⟨by simp [hl], hsz, .inl ⟨by rw [getD_set (by decide)]; exact hz, rfl⟩, hF.put 0 126 _ (by rw [hsz]; decide) (by simp) (by simp) (by simp)⟩
                  | 1, ho, hn =>
                    simp only [List.getElem?_toArray, List.getElem?_cons_zero, List.getElem?_cons_succ, Option.some.injEq] at ho
                    subst ho
                    obtain ⟨hz, rfl⟩ : l.getD 13 false = false ∧ W = u2.drew := by
                      rcases hW with h | ⟨_, h, _⟩
                      · exact h
                      · have := h 1 (by decide)
                        rw [getD_no hn] at this
                        cases this
                    refine .inl ⟨rfl, ?_⟩
                    have h17 : a.tmps[17]?.getD undef = .pointer (some ⟨b17, 0, none⟩) := hF.base 17 (by simp) rfl
                    exact owp_value (.pointer (some ⟨b17, 0, none⟩)) (w' := u2.drew) (by clear hdep; go_simp) ⟨by simp [hl], hsz, .inl ⟨by rw [getD_set (by decide)]; exact hz, rfl⟩, hF.put 1 127 _ (by rw [hsz]; decide) (by simp) (by simp) (by simp)⟩
                  | 2, ho, hn =>
                    simp only [List.getElem?_toArray, List.getElem?_cons_zero, List.getElem?_cons_succ, Option.some.injEq] at ho
                    subst ho
                    obtain ⟨hz, rfl⟩ : l.getD 13 false = false ∧ W = u2.drew := by
                      rcases hW with h | ⟨_, h, _⟩
                      · exact h
                      · have := h 2 (by decide)
                        rw [getD_no hn] at this
                        cases this
                    refine .inl ⟨rfl, ?_⟩
                    have h127 := hF.slot (i := 1) (s := 127) (v := .pointer (some ⟨b17, 0, none⟩)) (by simp) (hdep ⟨1, .data⟩ (by simp) rfl)
                    have hx := HX17.out
                    exact owp_value (.int .i64 (x.1 : Int)) (w' := u2.drew) (by clear hdep; go_simp) ⟨by simp [hl], hsz, .inl ⟨by rw [getD_set (by decide)]; exact hz, rfl⟩, hF.put 2 128 _ (by rw [hsz]; decide) (by simp) (by simp) (by simp)⟩
                  | 3, ho, hn =>
                    simp only [List.getElem?_toArray, List.getElem?_cons_zero, List.getElem?_cons_succ, Option.some.injEq] at ho
                    subst ho
                    obtain ⟨hz, rfl⟩ : l.getD 13 false = false ∧ W = u2.drew := by
                      rcases hW with h | ⟨_, h, _⟩
                      · exact h
                      · have := h 3 (by decide)
                        rw [getD_no hn] at this
                        cases this
                    refine .inl ⟨rfl, ?_⟩
                    have h15 : a.tmps[15]?.getD undef = .map (some ba) := hF.base 15 (by simp) rfl
                    exact owp_value (.map (some ba)) (w' := u2.drew) (by clear hdep; go_simp) ⟨by simp [hl], hsz, .inl ⟨by rw [getD_set (by decide)]; exact hz, rfl⟩, hF.put 3 129 _ (by rw [hsz]; decide) (by simp) (by simp) (by simp)⟩
                  | 4, ho, hn =>
                    simp only [List.getElem?_toArray, List.getElem?_cons_zero, List.getElem?_cons_succ, Option.some.injEq] at ho
                    subst ho
                    obtain ⟨hz, rfl⟩ : l.getD 13 false = false ∧ W = u2.drew := by
                      rcases hW with h | ⟨_, h, _⟩
                      · exact h
                      · have := h 4 (by decide)
                        rw [getD_no hn] at this
                        cases this
                    refine .inl ⟨rfl, ?_⟩
                    have h17 : a.tmps[17]?.getD undef = .pointer (some ⟨b17, 0, none⟩) := hF.base 17 (by simp) rfl
                    exact owp_value (.pointer (some ⟨b17, 0, none⟩)) (w' := u2.drew) (by clear hdep; go_simp) ⟨by simp [hl], hsz, .inl ⟨by rw [getD_set (by decide)]; exact hz, rfl⟩, hF.put 4 130 _ (by rw [hsz]; decide) (by simp) (by simp) (by simp)⟩
                  | 5, ho, hn =>
                    simp only [List.getElem?_toArray, List.getElem?_cons_zero, List.getElem?_cons_succ, Option.some.injEq] at ho
                    subst ho
                    obtain ⟨hz, rfl⟩ : l.getD 13 false = false ∧ W = u2.drew := by
                      rcases hW with h | ⟨_, h, _⟩
                      · exact h
                      · have := h 5 (by decide)
                        rw [getD_no hn] at this
                        cases this
                    refine .inl ⟨rfl, ?_⟩
                    have h130 := hF.slot (i := 4) (s := 130) (v := .pointer (some ⟨b17, 0, none⟩)) (by simp) (hdep ⟨4, .data⟩ (by simp) rfl)
                    have hx := HX17.out
                    exact owp_value (.int .i64 (x.1 : Int)) (w' := u2.drew) (by clear hdep; go_simp) ⟨by simp [hl], hsz, .inl ⟨by rw [getD_set (by decide)]; exact hz, rfl⟩, hF.put 5 131 _ (by rw [hsz]; decide) (by simp) (by simp) (by simp)⟩
                  | 6, ho, hn =>
                    simp only [List.getElem?_toArray, List.getElem?_cons_zero, List.getElem?_cons_succ, Option.some.injEq] at ho
                    subst ho
                    obtain ⟨hz, rfl⟩ : l.getD 13 false = false ∧ W = u2.drew := by
                      rcases hW with h | ⟨_, h, _⟩
                      · exact h
                      · have := h 6 (by decide)
                        rw [getD_no hn] at this
                        cases this
                    refine .inl ⟨rfl, ?_⟩
                    have h129 := hF.slot (i := 3) (s := 129) (v := .map (some ba)) (by simp) (hdep ⟨3, .data⟩ (by simp) rfl)
                    have h131 := hF.slot (i := 5) (s := 131) (v := .int .i64 (x.1 : Int)) (by simp) (hdep ⟨5, .data⟩ (by simp) rfl)
                    have hlk := HLA.out
                    exact owp_value (.bool false) (w' := u2.drew) (by clear hdep; go_simp) ⟨by simp [hl], hsz, .inl ⟨by rw [getD_set (by decide)]; exact hz, rfl⟩, hF.put 6 132 _ (by rw [hsz]; decide) (by simp) (by simp) (by simp)⟩
                  | 7, ho, hn =>
                    simp only [List.getElem?_toArray, List.getElem?_cons_zero, List.getElem?_cons_succ, Option.some.injEq] at ho
                    subst ho
                    obtain ⟨hz, rfl⟩ : l.getD 13 false = false ∧ W = u2.drew := by
                      rcases hW with h | ⟨_, h, _⟩
                      · exact h
                      · have := h 7 (by decide)
                        rw [getD_no hn] at this
                        cases this
                    refine .inl ⟨rfl, ?_⟩
                    have h132 := hF.slot (i := 6) (s := 132) (v := .bool false) (by simp) (hdep ⟨6, .data⟩ (by simp) rfl)
                    exact owp_value (.bool false) (w' := u2.drew) (by clear hdep; go_simp) ⟨by simp [hl], hsz, .inl ⟨by rw [getD_set (by decide)]; exact hz, rfl⟩, hF.put 7 133 _ (by rw [hsz]; decide) (by simp) (by simp) (by simp)⟩
                  | 8, ho, hn =>
                    simp only [List.getElem?_toArray, List.getElem?_cons_zero, List.getElem?_cons_succ, Option.some.injEq] at ho
                    subst ho
                    obtain ⟨hz, rfl⟩ : l.getD 13 false = false ∧ W = u2.drew := by
                      rcases hW with h | ⟨_, h, _⟩
                      · exact h
                      · have := h 8 (by decide)
                        rw [getD_no hn] at this
                        cases this
                    refine .inl ⟨wanted_of (j := 7) (s := 133) (b := false) rfl rfl rfl (hF.slot (v := .bool false) (by simp) (hdep ⟨7, .guard⟩ (by simp) rfl)), ?_⟩
                    have h8 : a.tmps[8]?.getD undef = .map (some bg) := hF.base 8 (by simp) rfl
                    exact owp_value (.map (some bg)) (w' := u2.drew) (by clear hdep; go_simp) ⟨by simp [hl], hsz, .inl ⟨by rw [getD_set (by decide)]; exact hz, rfl⟩, hF.put 8 134 _ (by rw [hsz]; decide) (by simp) (by simp) (by simp)⟩
                  | 9, ho, hn =>
                    simp only [List.getElem?_toArray, List.getElem?_cons_zero, List.getElem?_cons_succ, Option.some.injEq] at ho
                    subst ho
                    obtain ⟨hz, rfl⟩ : l.getD 13 false = false ∧ W = u2.drew := by
                      rcases hW with h | ⟨_, h, _⟩
                      · exact h
                      · have := h 9 (by decide)
                        rw [getD_no hn] at this
                        cases this
                    refine .inl ⟨wanted_of (j := 7) (s := 133) (b := false) rfl rfl rfl (hF.slot (v := .bool false) (by simp) (hdep ⟨7, .guard⟩ (by simp) rfl)), ?_⟩
                    have h17 : a.tmps[17]?.getD undef = .pointer (some ⟨b17, 0, none⟩) := hF.base 17 (by simp) rfl
                    have hld := run_loadVar_row u2.drew b17 32 32 #[.int .i64 (x.1 : Int), .int .u64 (x.2 : Int)] (0, 0) _ HB2.out Try.underlying32 rfl (by kernel_rfl)
                    refine owp_value (.agg #[.int .i64 (x.1 : Int), .int .u64 (x.2 : Int)]) (w' := u2.drew) ?_ ⟨by simp [hl], hsz, .inl ⟨by rw [getD_set (by decide)]; exact hz, rfl⟩, hF.put 9 135 _ (by rw [hsz]; decide) (by simp) (by simp) (by simp)⟩
                    clear hdep
                    simp only [execOp, Act.eval, Array.getD_eq_getD_getElem?, h17, Instr.loadAt, Instr.sureAddr, Sem.run_bind, Sem.run_pure, Result.andThen_ok, hld]
                    all_goals rfl
                  | 10, ho, hn =>
                    simp only [List.getElem?_toArray, List.getElem?_cons_zero, List.getElem?_cons_succ, Option.some.injEq] at ho
                    subst ho
                    obtain ⟨hz, rfl⟩ : l.getD 13 false = false ∧ W = u2.drew := by
                      rcases hW with h | ⟨_, h, _⟩
                      · exact h
                      · have := h 10 (by decide)
                        rw [getD_no hn] at this
                        cases this
                    refine .inl ⟨wanted_of (j := 7) (s := 133) (b := false) rfl rfl rfl (hF.slot (v := .bool false) (by simp) (hdep ⟨7, .guard⟩ (by simp) rfl)), ?_⟩
                    have h134 := hF.slot (i := 8) (s := 134) (v := .map (some bg)) (by simp) (hdep ⟨8, .data⟩ (by simp) rfl)
                    have h135 := hF.slot (i := 9) (s := 135) (v := .agg #[.int .i64 (x.1 : Int), .int .u64 (x.2 : Int)]) (by simp) (hdep ⟨9, .data⟩ (by simp) rfl)
                    have hlk := HLG.out
                    exact owp_value (.bool true) (w' := u2.drew) (by clear hdep; go_simp) ⟨by simp [hl], hsz, .inl ⟨by rw [getD_set (by decide)]; exact hz, rfl⟩, hF.put 10 136 _ (by rw [hsz]; decide) (by simp) (by simp) (by simp)⟩
                  | 11, ho, hn =>
                    simp only [List.getElem?_toArray, List.getElem?_cons_zero, List.getElem?_cons_succ, Option.some.injEq] at ho
                    subst ho
                    obtain ⟨hz, rfl⟩ : l.getD 13 false = false ∧ W = u2.drew := by
                      rcases hW with h | ⟨_, h, _⟩
                      · exact h
                      · have := h 11 (by decide)
                        rw [getD_no hn] at this
                        cases this
                    refine .inl ⟨wanted_of (j := 7) (s := 133) (b := false) rfl rfl rfl (hF.slot (v := .bool false) (by simp) (hdep ⟨7, .guard⟩ (by simp) rfl)), ?_⟩
                    have h136 := hF.slot (i := 10) (s := 136) (v := .bool true) (by simp) (hdep ⟨10, .data⟩ (by simp) rfl)
                    exact owp_value (.bool false) (w' := u2.drew) (by clear hdep; go_simp) ⟨by simp [hl], hsz, .inl ⟨by rw [getD_set (by decide)]; exact hz, rfl⟩, hF.put 11 137 _ (by rw [hsz]; decide) (by simp) (by simp) (by simp)⟩
                  | 12, ho, hn =>
                    simp only [List.getElem?_toArray, List.getElem?_cons_zero, List.getElem?_cons_succ, Option.some.injEq] at ho
                    subst ho
                    obtain ⟨hz, rfl⟩ : l.getD 13 false = false ∧ W = u2.drew := by
                      rcases hW with h | ⟨_, h, _⟩
                      · exact h
                      · have := h 12 (by decide)
                        rw [getD_no hn] at this
                        cases this
                    refine .inl ⟨rfl, ?_⟩
                    have h133 := hF.slot (i := 7) (s := 133) (v := .bool false) (by simp) (hdep ⟨7, .data⟩ (by simp) rfl)
                    have h137 := hF.slot (i := 11) (s := 137) (v := .bool false) (by simp) (hdep ⟨11, .data⟩ (by simp) rfl)
                    exact owp_value (.bool false) (w' := u2.drew) (by clear hdep; go_simp) ⟨by simp [hl], hsz, .inl ⟨by rw [getD_set (by decide)]; exact hz, rfl⟩, hF.put 12 138 _ (by rw [hsz]; decide) (by simp) (by simp) (by simp)⟩
                  | 13, ho, hn =>
                    simp only [List.getElem?_toArray, List.getElem?_cons_zero, List.getElem?_cons_succ, Option.some.injEq] at ho
                    subst ho
                    obtain ⟨hz, rfl⟩ : l.getD 13 false = false ∧ W = u2.drew := by
                      rcases hW with h | ⟨h, _⟩
                      · exact h
                      · rw [getD_no hn] at h
                        cases h
                    refine .inl ⟨rfl, ?_⟩
                    have h126 := hF.slot (i := 0) (s := 126) (v := .map (some ba)) (by simp) (hdep ⟨0, .data⟩ (by simp) rfl)
                    have h128 := hF.slot (i := 2) (s := 128) (v := .int .i64 (x.1 : Int)) (by simp) (hdep ⟨2, .data⟩ (by simp) rfl)
                    have h138 := hF.slot (i := 12) (s := 138) (v := .bool false) (by simp) (hdep ⟨12, .data⟩ (by simp) rfl)
                    have hlk := HRUN.out
                    refine owp_skip (w' := u3) (by clear hdep; go_simp) ⟨by simp [hl], hsz, .inr ⟨getD_set_self hn, fun j hj => ?_, rfl⟩, hF.skip 13 (by simp)⟩
                    rw [getD_set (by omega)]
                    match j, hj with
                    | 0, _ => exact hdep ⟨0, .phase⟩ (by simp) rfl
                    | 1, _ => exact hdep ⟨1, .phase⟩ (by simp) rfl
                    | 2, _ => exact hdep ⟨2, .phase⟩ (by simp) rfl
                    | 3, _ => exact hdep ⟨3, .phase⟩ (by simp) rfl
                    | 4, _ => exact hdep ⟨4, .phase⟩ (by simp) rfl
                    | 5, _ => exact hdep ⟨5, .phase⟩ (by simp) rfl
                    | 6, _ => exact hdep ⟨6, .phase⟩ (by simp) rfl
                    | 7, _ => exact hdep ⟨7, .phase⟩ (by simp) rfl
                    | 8, _ => exact hdep ⟨8, .phase⟩ (by simp) rfl
                    | 9, _ => exact hdep ⟨9, .phase⟩ (by simp) rfl
                    | 10, _ => exact hdep ⟨10, .phase⟩ (by simp) rfl
                    | 11, _ => exact hdep ⟨11, .phase⟩ (by simp) rfl
                    | 12, _ => exact hdep ⟨12, .phase⟩ (by simp) rfl
                    | j + 13, h => exact absurd h (by omega)
                  | i5 + 14, ho, hn => simp at ho
                · intro l a W1 hI hall
                  obtain ⟨hl, hsz, hW, hF⟩ := hI
                  have hall : ∀ i, i < 14 → l.getD i false = true := hall
                  have ha := hF.all (by simp only [List.mem_cons, List.not_mem_nil, or_false]; rintro x (rfl | rfl | rfl | rfl | rfl | rfl | rfl | rfl | rfl | rfl | rfl | rfl | rfl) <;> exact hall _ (by dsimp only; decide)) (by simp) (by rw [hsz]; simp)
                  subst ha
                  obtain rfl : W1 = u3 := by
                    rcases hW with ⟨h, _⟩ | ⟨_, _, h⟩
                    · rw [hall 13 (by decide)] at h
                      cases h
                    · exact h
                  clear hF hall hl hsz hW
                  refine hKc _ _ ?_
                  simp only [setAll, List.setIfInBounds_toArray, List.set_cons_succ, List.set_cons_zero]
                  go_wp2_with fail
                  go_roundw
                  case rel => exact ⟨j + 1, _, by omega, by go_num, HK3.out, HS3.out, HA3.out, fun i => by rw [aget_put, HALL.out]; exact HANY.out i⟩
                  case measure => simp [intOf]; omega
          · have HMz : Hid (OnM w wr p bg A c s hs G) := Lib.hid (HM.out.keep HK.out fun k e => by have := HBVS.out; omega)
            have HGz := Lib.hid (HMz.out.mp.len (P := Try.prog) (ty := 3) Try.underlying46)
            have hcount : (hs.length : Int) - (G.length : Int) = (s.count : Int) := by have := HS.out.2.2.2.2.count HS.out.2.2.2.1; omega
            have zc : IntKind.i64.wrap ((hs.length : Int) - (G.length : Int)) = (s.count : Int) := by
              have := s.count_le
              have := HSN.out
              rw [hcount, IntKind.wrap_i64]
              omega
            have zc2 : IntKind.i64.wrap (s.count : Int) = (s.count : Int) := by
              have := s.count_le
              have := HSN.out
              rw [IntKind.wrap_i64]
              omega
            go_wp2_with (first
              | (go_at_call 17
                 refine (len_m HMz.out).mono ?_
                 rintro e vz ⟨rfl, hb⟩
                 have HMy := Lib.hid (HMz.out.step hb)
                 have hlen := HMy.out.mp.len (P := Try.prog) (ty := 3) Try.underlying46
                 rw [asetL_len] at hlen
                 clear hb))
            go_roundw
            case rel => exact ⟨k + 1, s, hs, G, A, c, by omega, rfl, by go_num, HS.out, HMy.out⟩
            case measure => simp [intOf]; omega
      by_cases h128 : f k < 128
      · obtain ⟨v11, hv11⟩ : ∃ v : World, v = wr := ⟨_, rfl⟩
        clear hv11 v11
        cases hw : s.which with
        | none =>
          have e1 : s.tk = s := by unfold Ar.tk; rw [hw]
          have e2 : s.tkH = #[.int .i64 0, .int .u64 0] := by unfold Ar.tkH; rw [hw]
          have e3 : s.tkE = 9 := by unfold Ar.tkE; rw [hw]
          have HE := Lib.hid (And.intro e1 (And.intro e2 e3))
          have hcn : (s.count : Int) = (n : Int) := by rw [Ar.count_full hw, HS.out.2.1]
          clear e1 e2 e3 hw
          go_upto_region 13 with (first
            | (go_at_call 9
               refine (HMr.out.st.take pArC HS.out.1 HSN.out HSS.out).mono ?_
               rintro e v1 ⟨rfl, ht, hx⟩
               rw [HE.out.2.1, HE.out.2.2]
               have HM1 : Hid (OnM w (v1.alloc (.cells #[.int .i64 0, .int .u64 0] 32)) p bg A c s hs G) := Lib.hid (OnM.step (by
                 rw [HE.out.1] at ht
                 exact ⟨ht, HMr.out.own.blockAny (fun g hn hA => hx g (.inr ⟨hn, hA⟩)) HMr.out.nil, HMr.out.mp.block (hx bg (.inl rfl)), HMr.out.low, HMr.out.nil⟩) (below_alloc v1 _))
               clear ht hx))
          generalize v1.alloc (.cells #[.int .i64 0, .int .u64 0] 32) = v at *
          go_wp2_with (first
            | (go_at_call 17
               refine (len_m HM1.out).mono ?_
               rintro e vz ⟨rfl, hb⟩
               rw [hcn]
               have HMy := Lib.hid (HM1.out.step hb)
               clear hb))
          go_roundw
          case rel => exact ⟨k + 1, s, hs, G, A, c, by omega, rfl, by go_num, ⟨HS.out.1, HS.out.2.1, by have := HS.out.2.2.1; omega, HS.out.2.2.2⟩, HMy.out⟩
          case measure => simp [intOf]; omega
        | some i =>
          have e1 : s.tk = s.taken i := by unfold Ar.tk; rw [hw]
          have e2 : s.tkH = #[.int .i64 (i : Int), .int .u64 ((s.serial : Int) + 1)] := by unfold Ar.tkH; rw [hw]
          have e3 : s.tkE = 0 := by unfold Ar.tkE; rw [hw]
          have HE := Lib.hid (And.intro e1 (And.intro e2 e3))
          have HS2 : Hid ((s.taken i).Ok ∧ (s.taken i).has.length = n ∧ (s.taken i).serial ≤ k + 1 ∧ Ar.Hist (s.taken i) (hs ++ [(i, s.serial + 1)]) ∧ GoneL (s.taken i) (hs ++ [(i, s.serial + 1)]) G) := Lib.hid ⟨Ar.ok_taken HS.out.1 hw, by rw [← HS.out.2.1]; exact List.length_set, by show s.serial + 1 ≤ k + 1; have := HS.out.2.2.1; omega, HS.out.2.2.2.1.taken HS.out.1 hw, HS.out.2.2.2.2.taken HS.out.1 HS.out.2.2.2.1 hw⟩
          clear e1 e2 e3 hw
          obtain ⟨i0, hi0, hz0, hz1, hz2⟩ := info_parts Try.infoH
          have HI0 := Lib.hid hi0
          have HZ0 := Lib.hid hz0
          have HZ1 := Lib.hid hz1
          have HZ2 := Lib.hid hz2
          clear hi0 hz0 hz1 hz2
          go_upto_region 13 with (first
            | (go_at_call 9
               refine (HMr.out.st.take pArC HS.out.1 HSN.out HSS.out).mono ?_
               rintro e v1 ⟨rfl, ht, hx⟩
               rw [HE.out.2.1, HE.out.2.2]
               have HM1 : Hid (OnM w (v1.alloc (.cells #[.int .i64 (i : Int), .int .u64 ((s.serial : Int) + 1)] 32)) p bg A c (s.taken i) hs G) := Lib.hid (OnM.step (by
                 rw [HE.out.1] at ht
                 exact ⟨ht, HMr.out.own.blockAny (fun g hn hA => hx g (.inr ⟨hn, hA⟩)) HMr.out.nil, HMr.out.mp.block (hx bg (.inl rfl)), HMr.out.low, HMr.out.nil⟩) (below_alloc v1 _))
               have HB11 : Hid ((v1.alloc (.cells #[.int .i64 (i : Int), .int .u64 ((s.serial : Int) + 1)] 32)).heap[v1.heap.size]? = some (.cells #[.int .i64 (i : Int), .int .u64 ((s.serial : Int) + 1)] 32 (0, 0))) := Lib.hid (heap_alloc_new v1 _)
               clear ht hx))
          obtain ⟨b11, hb11⟩ : ∃ b, b = v1.heap.size := ⟨_, rfl⟩
          rw [← hb11] at HB11 ⊢
          clear hb11 HMr
          generalize v1.alloc (.cells #[.int .i64 (i : Int), .int .u64 ((s.serial : Int) + 1)] 32) = v2 at *
          have x0 : v2.cell? ⟨b11, 0, none⟩ = some (.int .i64 (i : Int)) := blk_cell HB11.out 0
          have x1 : v2.cell? ⟨b11, 1, none⟩ = some (.int .u64 ((s.serial : Int) + 1)) := blk_cell HB11.out 1
          have HM3 := Lib.hid (HM1.out.step (below_alloc v2 (.cells #[.int .i64 (i : Int), .int .u64 ((s.serial : Int) + 1)] 32)))
          have hbw : w.heap.size ≤ (v2.alloc (.cells #[.int .i64 (i : Int), .int .u64 ((s.serial : Int) + 1)] 32)).heap.size := HM3.out.below.size
          go_wp2_with (first
            | (at_builtin
               refine wpList_append_vals rfl (.tmp 67) (.tmp 69) 45 rfl w.heap.size 32 i0 (.agg #[.int .i64 0, .int .u64 0]) 2 Try.underlying45 HI0.out HZ0.out HZ1.out rfl (by decide) rfl HM3.out.own (m := 1) (A' := some ⟨v2.heap.size, 0, none⟩) (B := (v2.alloc (.cells #[.int .i64 (i : Int), .int .u64 ((s.serial : Int) + 1)] 32)).heap.size) (g := fun j => (#[.int .i64 (i : Int), .int .u64 ((s.serial : Int) + 1)] : Array Value)[j]?.getD undef) rfl (.inr ⟨v2.heap.size, 0, rfl, by simp, fun j hj => ?_⟩) (fun j hj => ?_) (by have := HLEN.out; unfold maxLen; omega) (by rw [HZ2.out]; have := HLEN.out; omega) hbw ?_
               · rw [Nat.zero_add, blk_cell (heap_alloc_new v2 _) j]
                 match j, hj with
                 | 0, _ => rfl
                 | 1, _ => rfl
               · match j, hj with
                 | 0, _ => rfl
                 | 1, _ => rfl
               intro A2 c2 v hown hg h3
               have HM : Hid (OnM w v p bg A2 c2 (s.taken i) (hs ++ [(i, s.serial + 1)]) G) := Lib.hid (HM3.out.appended (i, s.serial + 1) (hown.same fun j hj => tcell_snoc hs (i, s.serial + 1) _ rfl (by show Value.int .u64 ((s.serial : Int) + 1) = .int .u64 ((s.serial + 1 : Nat) : Int); congr 1) j hj) hg h3)
               rw [show hs.length + 1 = (hs ++ [(i, s.serial + 1)]).length by simp]
               clear hown hg h3))
          go_meet
          exact ⟨s.taken i, hs ++ [(i, s.serial + 1)], G, A2, c2, by rw [List.length_append]; rfl, HS2.out, HM.out⟩
      · by_cases hL : hs.length = 0
        · have hL0 : ¬ (0 : Int) < (hs.length : Int) := by omega
          have hL1 : (hs.length : Int) = 0 := by omega
          go_wp2_with fail
          go_meet
          exact ⟨s, hs, G, A, c, by rw [hL], ⟨HS.out.1, HS.out.2.1, by have := HS.out.2.2.1; omega, HS.out.2.2.2⟩, HMr.out⟩
        · have hL0 : (0 : Int) < (hs.length : Int) := by omega
          obtain ⟨jj, hjj⟩ : ∃ jj, jj = (f k).toNat % hs.length := ⟨_, rfl⟩
          have hjl : jj < hs.length := by rw [hjj]; exact Nat.mod_lt _ (by omega)
          obtain ⟨x, hx⟩ : ∃ x, hs[jj]? = some x := ⟨_, List.getElem?_eq_getElem hjl⟩
          have HX := Lib.hid hx
          have hz : ((hs.length : Int) == 0) = false := beq_eq_false_iff_ne.2 (by omega)
          have hcx : IntKind.i64.wrap (f k) = f k := by rw [IntKind.wrap_i64]; omega
          have hrem : f k % (hs.length : Int) = (jj : Int) := by
            obtain ⟨q, hq⟩ := Int.eq_ofNat_of_zero_le hfk.1
            rw [hjj, hq, Int.toNat_natCast]
            omega
          obtain ⟨gA, hA, _, hgl, hcl, _⟩ := HMr.out.own.lies (by omega)
          subst hA
          have z0 : wr.cell? ⟨gA, jj * 2, none⟩ = some (.int .i64 (x.1 : Int)) := (hcl (jj * 2) (by omega)).trans (tcell_at hx (j := 0) (by omega))
          have z1 : wr.cell? ⟨gA, jj * 2 + 1, none⟩ = some (.int .u64 (x.2 : Int)) := (hcl (jj * 2 + 1) (by omega)).trans (tcell_at hx (j := 1) (by omega))
          have i0 : (0 : Int) ≤ (jj : Int) := by omega
          have i1 : (jj : Int) < (hs.length : Int) := by omega
          have i2 : ((jj : Int)).toNat = jj := by omega
          have cap := HMr.out.own.cap
          have cap9 : c ≤ 9223372036854775807 := by have := HMr.out.own.cap_le; unfold maxLen at this; omega
          clear hcl hgl hjj
          go_upto_region 19 with fail
          have HMA := Lib.hid (HMr.out.step (below_alloc wr (.cells #[.int .i64 (x.1 : Int), .int .u64 (x.2 : Int)] 32)))
          have HB13 : Hid ((wr.alloc (.cells #[.int .i64 (x.1 : Int), .int .u64 (x.2 : Int)] 32)).heap[wr.heap.size]? = some (.cells #[.int .i64 (x.1 : Int), .int .u64 (x.2 : Int)] 32 (0, 0))) := Lib.hid (heap_alloc_new wr _)
          have HSTV : Hid (St PA w (fun k => OnX bg hs (some ⟨gA, 0, none⟩) k ∨ k = wr.heap.size) (wr.alloc (.cells #[.int .i64 (x.1 : Int), .int .u64 (x.2 : Int)] 32)).drew p s) := Lib.hid (by
            obtain ⟨F, hF, q1, q2, q3⟩ := HMr.out.st.box pArC (.cells #[.int .i64 (x.1 : Int), .int .u64 (x.2 : Int)] 32)
            exact ⟨F, hF.keep (Kept.refl (fun _ => False) _).drew fun _ _ q => q, q1, q2, q3.drew⟩)
          obtain ⟨b13, hb13⟩ : ∃ b, b = wr.heap.size := ⟨_, rfl⟩
          rw [← hb13] at HB13 HSTV ⊢
          clear hb13 z0 z1 i0 i1 i2 cap cap9 hx
          generalize wr.alloc (.cells #[.int .i64 (x.1 : Int), .int .u64 (x.2 : Int)] 32) = v1 at *
          have HMP := Lib.hid HMA.out.mp
          cases hl : s.live (x.1 : Int) x.2 with
          | true =>
            have HLL := Lib.hid hl
            have HDG : Hid (decide (x ∈ G) = false) := Lib.hid (decide_eq_false fun q => by
              have := ((HS.out.2.2.2.2.mem x).1 q).2
              rw [HLL.out] at this
              cases this)
            have HFE : Hid (s.frE (x.1 : Int) x.2 = 0) := Lib.hid (by unfold Ar.frE; rw [HLL.out]; rfl)
            have HFR : Hid (s.fr (x.1 : Int) x.2 = (s.gone x.1)) := Lib.hid (by unfold Ar.fr; rw [HLL.out]; rfl)
            clear hl
            rename_i Kc hKc
            refine wp_region_invG (fun a0 l a W => l.size = 8 ∧ a0.tmps.size = 150 ∧ St PA w (fun k => OnX bg hs (some ⟨gA, 0, none⟩) k ∨ k = b13) W p (Ar.frIf (l.getD 2 false) s (x.1 : Int) x.2) ∧ (∀ k, (OnX bg hs (some ⟨gA, 0, none⟩) k ∨ k = b13) → W.heap[k]? = v1.heap[k]?) ∧ FrU a0 ([(0, 82, .pointer (some ⟨p, 0, none⟩)), (1, 83, .agg #[.int .i64 (x.1 : Int), .int .u64 (x.2 : Int)]), (2, 84, .int .i64 0), (3, 85, .bool true), (4, 86, .map (some bg)), (5, 87, .agg #[.int .i64 (x.1 : Int), .int .u64 (x.2 : Int)]), (6, 88, .bool false), (7, 89, .bool false)] : List (Nat × Nat × Value)) l a) ?_ ?_ ?_ ?_ ?_ ?_
            · kernel_rfl
            · exact fun _ _ _ h => h.1
            · kernel_rfl
            · exact ⟨by simp, rfl, by rw [getD_none]; exact HSTV.out, fun _ _ => rfl, FrU.start _ _ _⟩
            · intro l a W i5 o hI ho hn hdep
              obtain ⟨hl, hsz, hT, hO, hF⟩ := hI
              match i5, ho, hn with
              | 0, ho, hn =>
                simp only [List.getElem?_toArray, List.getElem?_cons_zero, Option.some.injEq] at ho
                subst ho
                refine ⟨rfl, ?_⟩
                have h5 : a.tmps[5]?.getD undef = .pointer (some ⟨p, 0, none⟩) := hF.base 5 (by simp) rfl
                exact owp_value (.pointer (some ⟨p, 0, none⟩)) (w' := W) (by clear hdep; go_simp) ⟨by simp [hl], hsz, by rw [frIf_ne (by decide)]; exact hT, hO, hF.put 0 82 _ (by rw [hsz]; decide) (by simp) (by simp) (by simp)⟩
              | 1, ho, hn =>
                simp only [List.getElem?_toArray, List.getElem?_cons_zero, List.getElem?_cons_succ, Option.some.injEq] at ho
                subst ho
                refine ⟨rfl, ?_⟩
                have h13 : a.tmps[13]?.getD undef = .pointer (some ⟨b13, 0, none⟩) := hF.base 13 (by simp) rfl
                have hld := run_loadVar_row W b13 32 32 #[.int .i64 (x.1 : Int), .int .u64 (x.2 : Int)] (0, 0) _ ((hO b13 (.inr rfl)).trans HB13.out) Try.underlying32 rfl (by kernel_rfl)
                refine owp_value (.agg #[.int .i64 (x.1 : Int), .int .u64 (x.2 : Int)]) (w' := W) ?_ ⟨by simp [hl], hsz, by rw [frIf_ne (by decide)]; exact hT, hO, hF.put 1 83 _ (by rw [hsz]; decide) (by simp) (by simp) (by simp)⟩
                clear hdep
                simp only [execOp, Act.eval, Array.getD_eq_getD_getElem?, h13, Instr.loadAt, Instr.sureAddr, Sem.run_bind, Sem.run_pure, Result.andThen_ok, hld]
                all_goals rfl
              | 2, ho, hn =>
                simp only [List.getElem?_toArray, List.getElem?_cons_zero, List.getElem?_cons_succ, Option.some.injEq] at ho
                subst ho
                refine ⟨rfl, ?_⟩
                have h82 := hF.slot (i := 0) (s := 82) (v := .pointer (some ⟨p, 0, none⟩)) (by simp) (hdep ⟨0, .data⟩ (by simp) rfl)
                have h83 := hF.slot (i := 1) (s := 83) (v := .agg #[.int .i64 (x.1 : Int), .int .u64 (x.2 : Int)]) (by simp) (hdep ⟨1, .data⟩ (by simp) rfl)
                rw [getD_no hn] at hT
                have hTs : St PA w (fun k => OnX bg hs (some ⟨gA, 0, none⟩) k ∨ k = b13) W p s := hT
                refine owp_call (fn := 11) (args := #[.pointer (some ⟨p, 0, none⟩), .agg #[.int .i64 (x.1 : Int), .int .u64 (x.2 : Int)]]) (by clear hdep; go_simp) ?_
                refine (hTs.free pArC HS.out.1 HSN.out (x.1 : Int) x.2).mono ?_
                rintro e w' ⟨rfl, ht, hx⟩
                rw [HFE.out]
                exact ⟨_, rfl, by simp [hl], hsz, by rw [frIf_at hn]; exact ht, fun k hk => (hx k hk).trans (hO k hk), hF.put 2 84 _ (by rw [hsz]; decide) (by simp) (by simp) (by simp)⟩
              | 3, ho, hn =>
                simp only [List.getElem?_toArray, List.getElem?_cons_zero, List.getElem?_cons_succ, Option.some.injEq] at ho
                subst ho
                refine ⟨rfl, ?_⟩
                have h84 := hF.slot (i := 2) (s := 84) (v := .int .i64 0) (by simp) (hdep ⟨2, .data⟩ (by simp) rfl)
                exact owp_value (.bool true) (w' := W) (by clear hdep; go_simp) ⟨by simp [hl], hsz, by rw [frIf_ne (by decide)]; exact hT, hO, hF.put 3 85 _ (by rw [hsz]; decide) (by simp) (by simp) (by simp)⟩
              | 4, ho, hn =>
                simp only [List.getElem?_toArray, List.getElem?_cons_zero, List.getElem?_cons_succ, Option.some.injEq] at ho
                subst ho
                refine ⟨rfl, ?_⟩
                have h8 : a.tmps[8]?.getD undef = .map (some bg) := hF.base 8 (by simp) rfl
                exact owp_value (.map (some bg)) (w' := W) (by clear hdep; go_simp) ⟨by simp [hl], hsz, by rw [frIf_ne (by decide)]; exact hT, hO, hF.put 4 86 _ (by rw [hsz]; decide) (by simp) (by simp) (by simp)⟩
              | 5, ho, hn =>
                simp only [List.getElem?_toArray, List.getElem?_cons_zero, List.getElem?_cons_succ, Option.some.injEq] at ho
                subst ho
                refine ⟨rfl, ?_⟩
                have h13 : a.tmps[13]?.getD undef = .pointer (some ⟨b13, 0, none⟩) := hF.base 13 (by simp) rfl
                have hld := run_loadVar_row W b13 32 32 #[.int .i64 (x.1 : Int), .int .u64 (x.2 : Int)] (0, 0) _ ((hO b13 (.inr rfl)).trans HB13.out) Try.underlying32 rfl (by kernel_rfl)
                refine owp_value (.agg #[.int .i64 (x.1 : Int), .int .u64 (x.2 : Int)]) (w' := W) ?_ ⟨by simp [hl], hsz, by rw [frIf_ne (by decide)]; exact hT, hO, hF.put 5 87 _ (by rw [hsz]; decide) (by simp) (by simp) (by simp)⟩
                clear hdep
                simp only [execOp, Act.eval, Array.getD_eq_getD_getElem?, h13, Instr.loadAt, Instr.sureAddr, Sem.run_bind, Sem.run_pure, Result.andThen_ok, hld]
                all_goals rfl
              | 6, ho, hn =>
                simp only [List.getElem?_toArray, List.getElem?_cons_zero, List.getElem?_cons_succ, Option.some.injEq] at ho
                subst ho
                refine ⟨rfl, ?_⟩
                have h86 := hF.slot (i := 4) (s := 86) (v := .map (some bg)) (by simp) (hdep ⟨4, .data⟩ (by simp) rfl)
                have h87 := hF.slot (i := 5) (s := 87) (v := .agg #[.int .i64 (x.1 : Int), .int .u64 (x.2 : Int)]) (by simp) (hdep ⟨5, .data⟩ (by simp) rfl)
                have hlk := look_set (HMP.out.block (hO bg (.inl (.inl rfl)))) x
                rw [HDG.out] at hlk
                exact owp_value (.bool false) (w' := W) (by clear hdep; go_simp) ⟨by simp [hl], hsz, by rw [frIf_ne (by decide)]; exact hT, hO, hF.put 6 88 _ (by rw [hsz]; decide) (by simp) (by simp) (by simp)⟩
              | 7, ho, hn =>
                simp only [List.getElem?_toArray, List.getElem?_cons_zero, List.getElem?_cons_succ, Option.some.injEq] at ho
                subst ho
                refine ⟨rfl, ?_⟩
                have h85 := hF.slot (i := 3) (s := 85) (v := .bool true) (by simp) (hdep ⟨3, .data⟩ (by simp) rfl)
                have h88 := hF.slot (i := 6) (s := 88) (v := .bool false) (by simp) (hdep ⟨6, .data⟩ (by simp) rfl)
                exact owp_value (.bool false) (w' := W) (by clear hdep; go_simp) ⟨by simp [hl], hsz, by rw [frIf_ne (by decide)]; exact hT, hO, hF.put 7 89 _ (by rw [hsz]; decide) (by simp) (by simp) (by simp)⟩
              | i5 + 8, ho, hn => simp at ho
            · intro l a W1 hI hall
              obtain ⟨hl, hsz, hT, hO, hF⟩ := hI
              have hall : ∀ i, i < 8 → l.getD i false = true := hall
              have ha := hF.all (by simp only [List.mem_cons, List.not_mem_nil, or_false]; rintro x (rfl | rfl | rfl | rfl | rfl | rfl | rfl | rfl) <;> exact hall _ (by dsimp only; decide)) (by simp) (by rw [hsz]; simp)
              subst ha
              rw [hall 2 (by decide)] at hT
              have HT2 := Lib.hid hT
              have HO2 := Lib.hid hO
              clear hF hall hl hsz hT hO HSTV
              refine hKc _ _ ?_
              simp only [setAll, List.setIfInBounds_toArray, List.set_cons_succ, List.set_cons_zero]
              have HMW : Hid (OnM w W1 p bg (some ⟨gA, 0, none⟩) c (s.gone x.1) hs G) := Lib.hid (by
                obtain ⟨F, hF, q1, q2, q3⟩ := HT2.out
                have e : Ar.frIf true s (x.1 : Int) x.2 = (s.gone x.1) := HFR.out
                rw [e] at hF
                exact ⟨⟨F, hF, fun k f => ⟨(q1 k f).1, fun hx => (q1 k f).2 (.inl hx)⟩, fun k hx => q2 k (.inl hx), q3⟩, HMA.out.own.blockAny (fun g hn hA => HO2.out g (.inl (.inr ⟨hn, hA⟩))) HMA.out.nil, HMA.out.mp.block (HO2.out bg (.inl (.inl rfl))), HMA.out.low, HMA.out.nil⟩)
              have HBW : Hid (W1.heap[b13]? = some (.cells #[.int .i64 (x.1 : Int), .int .u64 (x.2 : Int)] 32 (0, 0))) := Lib.hid ((HO2.out b13 (.inr rfl)).trans HB13.out)
              clear HT2 HO2 HMP HMA HB13
              have hput := put_set HMW.out.mp x
              rw [if_neg (of_decide_eq_false HDG.out)] at hput
              obtain ⟨v, hrun, hm2, hk2⟩ := hput
              have HM : Hid (OnM w v p bg (some ⟨gA, 0, none⟩) c (s.gone x.1) hs (G ++ [x])) := Lib.hid (HMW.out.putted hk2 hm2)
              go_wp2_with (first
                | (refine wpList_load_row rfl 32 (.tmp 13) rfl b13 rfl 32 #[.int .i64 (x.1 : Int), .int .u64 (x.2 : Int)] (0, 0) _ HBW.out Try.underlying32 rfl (by kernel_rfl) ?_))
              have HS1 : Hid ((s.gone x.1).Ok ∧ (s.gone x.1).has.length = n ∧ (s.gone x.1).serial ≤ k + 1 ∧ Ar.Hist (s.gone x.1) hs ∧ GoneL (s.gone x.1) hs (G ++ [x])) := Lib.hid (by
                have hne : s.at_ x.1 ≠ 0 := by
                  obtain ⟨_, h0, h1⟩ := Ar.live_iff.1 HLL.out
                  rw [Int.toNat_natCast] at h1
                  omega
                exact ⟨Ar.ok_gone HS.out.1 hne, by rw [← HS.out.2.1]; exact List.length_set, by show s.serial ≤ k + 1; have := HS.out.2.2.1; omega, HS.out.2.2.2.1.gone HS.out.1 (List.mem_of_getElem? HX.out) HLL.out, HS.out.2.2.2.2.gone HS.out.1 (List.mem_of_getElem? HX.out) HLL.out HS.out.2.2.2.1⟩)
              go_meet
              exact ⟨_, _, _, _, _, rfl, HS1.out, HM.out⟩
          | false =>
            have HLL := Lib.hid hl
            have HDG : Hid (decide (x ∈ G) = true) := Lib.hid (decide_eq_true ((HS.out.2.2.2.2.mem x).2 ⟨List.mem_of_getElem? HX.out, HLL.out⟩))
            have HFE : Hid (s.frE (x.1 : Int) x.2 = 14) := Lib.hid (by unfold Ar.frE; rw [HLL.out]; rfl)
            have HFR : Hid (s.fr (x.1 : Int) x.2 = s) := Lib.hid (by unfold Ar.fr; rw [HLL.out]; rfl)
            clear hl
            rename_i Kc hKc
            refine wp_region_invG (fun a0 l a W => l.size = 8 ∧ a0.tmps.size = 150 ∧ St PA w (fun k => OnX bg hs (some ⟨gA, 0, none⟩) k ∨ k = b13) W p (Ar.frIf (l.getD 2 false) s (x.1 : Int) x.2) ∧ (∀ k, (OnX bg hs (some ⟨gA, 0, none⟩) k ∨ k = b13) → W.heap[k]? = v1.heap[k]?) ∧ FrU a0 ([(0, 82, .pointer (some ⟨p, 0, none⟩)), (1, 83, .agg #[.int .i64 (x.1 : Int), .int .u64 (x.2 : Int)]), (2, 84, .int .i64 14), (3, 85, .bool false), (4, 86, .map (some bg)), (5, 87, .agg #[.int .i64 (x.1 : Int), .int .u64 (x.2 : Int)]), (6, 88, .bool true), (7, 89, .bool false)] : List (Nat × Nat × Value)) l a) ?_ ?_ ?_ ?_ ?_ ?_
            · kernel_rfl
            · exact fun _ _ _ h => h.1
            · kernel_rfl
            · exact ⟨by simp, rfl, by rw [getD_none]; exact HSTV.out, fun _ _ => rfl, FrU.start _ _ _⟩
            · intro l a W i5 o hI ho hn hdep
              obtain ⟨hl, hsz, hT, hO, hF⟩ := hI
              match i5, ho, hn with
              | 0, ho, hn =>
                simp only [List.getElem?_toArray, List.getElem?_cons_zero, Option.some.injEq] at ho
                subst ho
                refine ⟨rfl, ?_⟩
                have h5 : a.tmps[5]?.getD undef = .pointer (some ⟨p, 0, none⟩) := hF.base 5 (by simp) rfl
                exact owp_value (.pointer (some ⟨p, 0, none⟩)) (w' := W) (by clear hdep; go_simp) ⟨by simp [hl], hsz, by rw [frIf_ne (by decide)]; exact hT, hO, hF.put 0 82 _ (by rw [hsz]; decide) (by simp) (by simp) (by simp)⟩
              | 1, ho, hn =>
                simp only [List.getElem?_toArray, List.getElem?_cons_zero, List.getElem?_cons_succ, Option.some.injEq] at ho
                subst ho
                refine ⟨rfl, ?_⟩
                have h13 : a.tmps[13]?.getD undef = .pointer (some ⟨b13, 0, none⟩) := hF.base 13 (by simp) rfl
                have hld := run_loadVar_row W b13 32 32 #[.int .i64 (x.1 : Int), .int .u64 (x.2 : Int)] (0, 0) _ ((hO b13 (.inr rfl)).trans HB13.out) Try.underlying32 rfl (by kernel_rfl)
                refine owp_value (.agg #[.int .i64 (x.1 : Int), .int .u64 (x.2 : Int)]) (w' := W) ?_ ⟨by simp [hl], hsz, by rw [frIf_ne (by decide)]; exact hT, hO, hF.put 1 83 _ (by rw [hsz]; decide) (by simp) (by simp) (by simp)⟩
                clear hdep
                simp only [execOp, Act.eval, Array.getD_eq_getD_getElem?, h13, Instr.loadAt, Instr.sureAddr, Sem.run_bind, Sem.run_pure, Result.andThen_ok, hld]
                all_goals rfl
              | 2, ho, hn =>
                simp only [List.getElem?_toArray, List.getElem?_cons_zero, List.getElem?_cons_succ, Option.some.injEq] at ho
                subst ho
                refine ⟨rfl, ?_⟩
                have h82 := hF.slot (i := 0) (s := 82) (v := .pointer (some ⟨p, 0, none⟩)) (by simp) (hdep ⟨0, .data⟩ (by simp) rfl)
                have h83 := hF.slot (i := 1) (s := 83) (v := .agg #[.int .i64 (x.1 : Int), .int .u64 (x.2 : Int)]) (by simp) (hdep ⟨1, .data⟩ (by simp) rfl)
                rw [getD_no hn] at hT
                have hTs : St PA w (fun k => OnX bg hs (some ⟨gA, 0, none⟩) k ∨ k = b13) W p s := hT
                refine owp_call (fn := 11) (args := #[.pointer (some ⟨p, 0, none⟩), .agg #[.int .i64 (x.1 : Int), .int .u64 (x.2 : Int)]]) (by clear hdep; go_simp) ?_
                refine (hTs.free pArC HS.out.1 HSN.out (x.1 : Int) x.2).mono ?_
                rintro e w' ⟨rfl, ht, hx⟩
                rw [HFE.out]
                exact ⟨_, rfl, by simp [hl], hsz, by rw [frIf_at hn]; exact ht, fun k hk => (hx k hk).trans (hO k hk), hF.put 2 84 _ (by rw [hsz]; decide) (by simp) (by simp) (by simp)⟩
              | 3, ho, hn =>
                simp only [List.getElem?_toArray, List.getElem?_cons_zero, List.getElem?_cons_succ, Option.some.injEq] at ho
                subst ho
                refine ⟨rfl, ?_⟩
                have h84 := hF.slot (i := 2) (s := 84) (v := .int .i64 14) (by simp) (hdep ⟨2, .data⟩ (by simp) rfl)
                exact owp_value (.bool false) (w' := W) (by clear hdep; go_simp) ⟨by simp [hl], hsz, by rw [frIf_ne (by decide)]; exact hT, hO, hF.put 3 85 _ (by rw [hsz]; decide) (by simp) (by simp) (by simp)⟩
              | 4, ho, hn =>
                simp only [List.getElem?_toArray, List.getElem?_cons_zero, List.getElem?_cons_succ, Option.some.injEq] at ho
                subst ho
                refine ⟨rfl, ?_⟩
                have h8 : a.tmps[8]?.getD undef = .map (some bg) := hF.base 8 (by simp) rfl
                exact owp_value (.map (some bg)) (w' := W) (by clear hdep; go_simp) ⟨by simp [hl], hsz, by rw [frIf_ne (by decide)]; exact hT, hO, hF.put 4 86 _ (by rw [hsz]; decide) (by simp) (by simp) (by simp)⟩
              | 5, ho, hn =>
                simp only [List.getElem?_toArray, List.getElem?_cons_zero, List.getElem?_cons_succ, Option.some.injEq] at ho
                subst ho
                refine ⟨rfl, ?_⟩
                have h13 : a.tmps[13]?.getD undef = .pointer (some ⟨b13, 0, none⟩) := hF.base 13 (by simp) rfl
                have hld := run_loadVar_row W b13 32 32 #[.int .i64 (x.1 : Int), .int .u64 (x.2 : Int)] (0, 0) _ ((hO b13 (.inr rfl)).trans HB13.out) Try.underlying32 rfl (by kernel_rfl)
                refine owp_value (.agg #[.int .i64 (x.1 : Int), .int .u64 (x.2 : Int)]) (w' := W) ?_ ⟨by simp [hl], hsz, by rw [frIf_ne (by decide)]; exact hT, hO, hF.put 5 87 _ (by rw [hsz]; decide) (by simp) (by simp) (by simp)⟩
                clear hdep
                simp only [execOp, Act.eval, Array.getD_eq_getD_getElem?, h13, Instr.loadAt, Instr.sureAddr, Sem.run_bind, Sem.run_pure, Result.andThen_ok, hld]
                all_goals rfl
              | 6, ho, hn =>
                simp only [List.getElem?_toArray, List.getElem?_cons_zero, List.getElem?_cons_succ, Option.some.injEq] at ho
                subst ho
                refine ⟨rfl, ?_⟩
                have h86 := hF.slot (i := 4) (s := 86) (v := .map (some bg)) (by simp) (hdep ⟨4, .data⟩ (by simp) rfl)
                have h87 := hF.slot (i := 5) (s := 87) (v := .agg #[.int .i64 (x.1 : Int), .int .u64 (x.2 : Int)]) (by simp) (hdep ⟨5, .data⟩ (by simp) rfl)
                have hlk := look_set (HMP.out.block (hO bg (.inl (.inl rfl)))) x
                rw [HDG.out] at hlk
                exact owp_value (.bool true) (w' := W) (by clear hdep; go_simp) ⟨by simp [hl], hsz, by rw [frIf_ne (by decide)]; exact hT, hO, hF.put 6 88 _ (by rw [hsz]; decide) (by simp) (by simp) (by simp)⟩
              | 7, ho, hn =>
                simp only [List.getElem?_toArray, List.getElem?_cons_zero, List.getElem?_cons_succ, Option.some.injEq] at ho
                subst ho
                refine ⟨rfl, ?_⟩
                have h85 := hF.slot (i := 3) (s := 85) (v := .bool false) (by simp) (hdep ⟨3, .data⟩ (by simp) rfl)
                have h88 := hF.slot (i := 6) (s := 88) (v := .bool true) (by simp) (hdep ⟨6, .data⟩ (by simp) rfl)
                exact owp_value (.bool false) (w' := W) (by clear hdep; go_simp) ⟨by simp [hl], hsz, by rw [frIf_ne (by decide)]; exact hT, hO, hF.put 7 89 _ (by rw [hsz]; decide) (by simp) (by simp) (by simp)⟩
              | i5 + 8, ho, hn => simp at ho
            · intro l a W1 hI hall
              obtain ⟨hl, hsz, hT, hO, hF⟩ := hI
              have hall : ∀ i, i < 8 → l.getD i false = true := hall
              have ha := hF.all (by simp only [List.mem_cons, List.not_mem_nil, or_false]; rintro x (rfl | rfl | rfl | rfl | rfl | rfl | rfl | rfl) <;> exact hall _ (by dsimp only; decide)) (by simp) (by rw [hsz]; simp)
              subst ha
              rw [hall 2 (by decide)] at hT
              have HT2 := Lib.hid hT
              have HO2 := Lib.hid hO
              clear hF hall hl hsz hT hO HSTV
              refine hKc _ _ ?_
              simp only [setAll, List.setIfInBounds_toArray, List.set_cons_succ, List.set_cons_zero]
              have HMW : Hid (OnM w W1 p bg (some ⟨gA, 0, none⟩) c s hs G) := Lib.hid (by
                obtain ⟨F, hF, q1, q2, q3⟩ := HT2.out
                have e : Ar.frIf true s (x.1 : Int) x.2 = s := HFR.out
                rw [e] at hF
                exact ⟨⟨F, hF, fun k f => ⟨(q1 k f).1, fun hx => (q1 k f).2 (.inl hx)⟩, fun k hx => q2 k (.inl hx), q3⟩, HMA.out.own.blockAny (fun g hn hA => HO2.out g (.inl (.inr ⟨hn, hA⟩))) HMA.out.nil, HMA.out.mp.block (HO2.out bg (.inl (.inl rfl))), HMA.out.low, HMA.out.nil⟩)
              have HBW : Hid (W1.heap[b13]? = some (.cells #[.int .i64 (x.1 : Int), .int .u64 (x.2 : Int)] 32 (0, 0))) := Lib.hid ((HO2.out b13 (.inr rfl)).trans HB13.out)
              clear HT2 HO2 HMP HMA HB13
              have hput := put_set HMW.out.mp x
              rw [if_pos (of_decide_eq_true HDG.out)] at hput
              obtain ⟨v, hrun, hm2, hk2⟩ := hput
              have HM : Hid (OnM w v p bg (some ⟨gA, 0, none⟩) c s hs G) := Lib.hid (HMW.out.putted hk2 hm2)
              go_wp2_with (first
                | (refine wpList_load_row rfl 32 (.tmp 13) rfl b13 rfl 32 #[.int .i64 (x.1 : Int), .int .u64 (x.2 : Int)] (0, 0) _ HBW.out Try.underlying32 rfl (by kernel_rfl) ?_))
              have HS1 : Hid (s.Ok ∧ s.has.length = n ∧ s.serial ≤ k + 1 ∧ Ar.Hist s hs ∧ GoneL s hs G) := Lib.hid ⟨HS.out.1, HS.out.2.1, by have := HS.out.2.2.1; omega, HS.out.2.2.2⟩
              go_meet
              exact ⟨_, _, _, _, _, rfl, HS1.out, HM.out⟩
    · obtain rfl : m = k := by omega
      go_wp2_with (first
        | (go_at_call 6
           refine (known_p wr).mono ?_
           rintro e uz ⟨rfl, hb⟩))
      go_ret
      exact ⟨rfl, HMr.out.below.trans (hb.mono HMr.out.below.size)⟩
end Go.Proofs.Ythljpfmonienlaa
