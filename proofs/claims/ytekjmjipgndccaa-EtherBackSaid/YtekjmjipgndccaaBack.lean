/- EtherBack: the walk. -/
import Derived.Test.YtekjmjipgndccaaFrames
import Derived.Deep.CutRange
namespace Go.Proofs.Ytekjmjipgndccaa
open Go.RowKit
set_option maxRecDepth 100000 in
set_option maxHeartbeats 400000 in
theorem back_long (x y : Nat → Int) (k : Int) (A : Option Addr) (n c : Nat) (hn : 4000 < n) (hn' : n ≤ 9223372036854775807) (s : ByteArray) (w : World) : Calls Try.prog 5 #[.agg (eth x y k), .slice A n c, .string s] w fun e w' => e = .returned (.bool true) ∧ Below w.heap.size w w' := by
  go_enter Try.func5, Try.ntmps5
  go_wp2_with (go_at_call 6; refine (known_any _).mono ?_; rintro e w1 ⟨rfl, hb1⟩)
  go_ret
  exact ⟨rfl, ((Below.refl _ _).alloc (Nat.le_refl _) _).trans (hb1.mono (by simp))⟩
set_option maxRecDepth 100000 in
set_option maxHeartbeats 400000 in
theorem back_text (x y : Nat → Int) (k : Int) (A : Option Addr) (n c : Nat) (hn : n ≤ 4000) (s : ByteArray) (hs : 100 < s.size) (hs' : s.size ≤ 9223372036854775807) (w : World) : Calls Try.prog 5 #[.agg (eth x y k), .slice A n c, .string s] w fun e w' => e = .returned (.bool true) ∧ Below w.heap.size w w' := by
  go_enter Try.func5, Try.ntmps5
  go_wp2_with (go_at_call 6; refine (known_any _).mono ?_; rintro e w1 ⟨rfl, hb1⟩)
  go_ret
  exact ⟨rfl, ((Below.refl _ _).alloc (Nat.le_refl _) _).trans (hb1.mono (by simp))⟩
theorem frm_parts (x y : Nat → Int) (k : Int) (hk : 0 ≤ k) (hk' : k ≤ 65535) (f : Nat → Int) : (∀ j, j < 6 → frm x y k f j = x j) ∧ (∀ j, j < 6 → frm x y k f (6 + j) = y j) ∧ frm x y k f 12 * 256 + frm x y k f 13 = k ∧ ∀ j, frm x y k f (14 + j) = f j := by
  unfold frm
  refine ⟨fun j hj => by rw [if_pos hj], fun j hj => ?_, ?_, fun j => ?_⟩
  · rw [if_neg (by omega), if_pos (by omega)]
    congr 1
    omega
  · rw [if_neg (by omega), if_neg (by omega), if_pos rfl, if_neg (by omega), if_neg (by omega), if_neg (by omega), if_pos rfl]
    omega
  · rw [if_neg (by omega), if_neg (by omega), if_neg (by omega), if_neg (by omega)]
    congr 1
    omega
theorem frm_whole (f : Nat → Int) (hf : Byt f) (p : Nat) : frm f (fun k => f (6 + k)) (f 12 * 256 + f 13) (fun k => f (14 + k)) p = f p := by
  have h12 := hf 12
  have h13 := hf 13
  unfold frm
  by_cases h6 : p < 6
  · rw [if_pos h6]
  · rw [if_neg h6]
    by_cases hh : p < 12
    · rw [if_pos hh]
      show f (6 + (p - 6)) = f p
      congr 1
      omega
    · rw [if_neg hh]
      by_cases e12 : p = 12
      · subst e12
        rw [if_pos rfl]
        omega
      · rw [if_neg e12]
        by_cases e13 : p = 13
        · subst e13
          rw [if_pos rfl]
          omega
        · rw [if_neg e13]
          show f (14 + (p - 14)) = f p
          congr 1
          omega
theorem same13 (X Y x y : Nat → Int) (K k : Int) (hX : ∀ j, j < 6 → X j = x j) (hY : ∀ j, j < 6 → Y j = y j) (hK : K = k) (w : World) : (Op.equalIn 10000 25 (.agg #[.int .u8 (X 0), .int .u8 (X 1), .int .u8 (X 2), .int .u8 (X 3), .int .u8 (X 4), .int .u8 (X 5), .int .u8 (Y 0), .int .u8 (Y 1), .int .u8 (Y 2), .int .u8 (Y 3), .int .u8 (Y 4), .int .u8 (Y 5), .int .u16 K]) (.agg #[.int .u8 (x 0), .int .u8 (x 1), .int .u8 (x 2), .int .u8 (x 3), .int .u8 (x 4), .int .u8 (x 5), .int .u8 (y 0), .int .u8 (y 1), .int .u8 (y 2), .int .u8 (y 3), .int .u8 (y 4), .int .u8 (y 5), .int .u16 k])).run Try.prog w = .ok true w := by
  have e := equal13 9997 X Y x y K k w
  rw [(same6_iff X x).2 hX, (same6_iff Y y).2 hY] at e
  have e1 : (true && (true && K == k)) = true := by simp [hK]
  rw [e1] at e
  exact e
set_option maxRecDepth 100000 in
set_option maxHeartbeats 2000000 in
theorem back_short (x y : Nat → Int) (hx : Byt x) (hy : Byt y) (k : Int) (hk : 0 ≤ k) (hk' : k ≤ 65535) (A : Option Addr) (n c : Nat) (f : Nat → Int) (hf : Byt f) (hn : n ≤ 4000) (hcap : n ≤ c) (hc' : c ≤ 9223372036854775807) (s : ByteArray) (hs : s.size ≤ 100) (w : World) (hr : Rd w w.heap.size A n f) :
    Calls Try.prog 5 #[.agg (eth x y k), .slice A n c, .string s] w fun e w' => e = .returned (.bool true) ∧ Below w.heap.size w w' := by
  obtain ⟨mu, u, hu01, w9, _⟩ := write_both x y hx hy k hk hk' n f hf hn
  have HW9 := Lib.hid w9
  have HU01 := Lib.hid hu01
  have HF := Lib.hid hf
  have HX := Lib.hid hx
  have HY := Lib.hid hy
  have HR := Lib.hid hr
  clear w9 hf hx hy hr hu01
  have HE1 : Hid ((w.alloc (.cells (eth x y k) 25)).heap[w.heap.size]? = some (.cells (eth x y k) 25 (0, 0))) := heap_alloc_new w _
  have HB1 : Hid (Below w.heap.size w (w.alloc (.cells (eth x y k) 25))) := below_alloc w _
  obtain ⟨d0, d1, d2, d3, d4, d5, d6, d7, d8, d9, d10, d11, d12⟩ := eth_cells HE1.out
  go_enter Try.func5, Try.ntmps5
  go_wp2_with fail
  clear d0 d1 d2 d3 d4 d5 d6 d7 d8 d9 d10 d11 d12
  generalize w.alloc (.cells (eth x y k) 25) = w1 at *
  go_at_call 9
  refine (HW9.out A c w1 hcap hc' ((HR.out.keep HB1.out).more HB1.out.size)).mono ?_
  rintro e w2 ⟨U, cu, rfl, hu2, hb2⟩
  have HU2 := Lib.hid hu2
  have HE2 : Hid (w2.heap[w.heap.size]? = some (.cells (eth x y k) 25 (0, 0))) := (hb2.block _ (lt_heap HE1.out)).trans HE1.out
  have HB2 : Hid (Below w.heap.size w w2) := HB1.out.trans (hb2.mono HB1.out.size)
  clear hu2 hb2 HE1 HB1
  go_upto_if 41 with fail
  go_cut [] from 36 to 71 (fun wx => wx = w2)
  case first =>
    rcases HU01.out with ⟨rfl, h, hmu⟩ | ⟨rfl, h, hmu⟩
    · clear hmu
      have e : decide ((n : Int) ≤ 1646) = true := by simp; omega
      rw [e]
      go_wp2_with fail
      go_meet
      exact rfl
    · clear hmu
      have e : decide ((n : Int) ≤ 1646) = false := by simp; omega
      rw [e]
      go_wp2_with fail
      go_meet
      exact rfl
  case rest =>
  subst hcut
  go_upto_if 43 with fail
  go_cut [] from 7 to 71 (fun wx => wx.heap[w.heap.size]? = some (.cells (eth x y k) 25 (0, 0)) ∧ Below w.heap.size w wx)
  case first =>
    rcases HU01.out with ⟨rfl, h, hmu⟩ | ⟨rfl, h, hmu⟩
    · have HMU := Lib.hid hmu
      have hm4 : mu ≤ 4000 := by omega
      have HFB : Hid (Byt (frm x y k f)) := frm_byt HX.out HY.out hk hk' HF.out
      obtain ⟨X, Y, K, m, g, r, _, _, _, _, _, hr01, hr0, r7, _⟩ := read_both mu (frm x y k f) HFB.out hm4
      have HR7 := Lib.hid r7
      have HR0 := Lib.hid hr0
      have hcu : mu ≤ cu := HU2.out.cap
      have hcu' : cu ≤ 9223372036854775807 := HU2.out.cap_le
      have HR01 := Lib.hid hr01
      clear r7 hr0 hmu hr01
      go_wp2_with fail
      go_at_call 7
      refine (HR7.out U cu wc hcu hcu' HU2.out.rd).mono ?_
      rintro e w3 ⟨P, cp, rfl, hp3, hb3⟩
      have HP3 := Lib.hid hp3
      have HE3 : Hid (w3.heap[w.heap.size]? = some (.cells (eth x y k) 25 (0, 0))) := (hb3.block _ (lt_heap HE2.out)).trans HE2.out
      have HB3 : Hid (Below w.heap.size w w3) := HB2.out.trans (hb3.mono HB2.out.size)
      clear hp3 hb3 HE2 HB2
      have HB4 : Hid (Below w.heap.size w (w3.alloc (.cells #[.int .u8 (X 0), .int .u8 (X 1), .int .u8 (X 2), .int .u8 (X 3), .int .u8 (X 4), .int .u8 (X 5), .int .u8 (Y 0), .int .u8 (Y 1), .int .u8 (Y 2), .int .u8 (Y 3), .int .u8 (Y 4), .int .u8 (Y 5), .int .u16 K] 25))) := HB3.out.alloc HB3.out.size _
      have HE4 : Hid ((w3.alloc (.cells #[.int .u8 (X 0), .int .u8 (X 1), .int .u8 (X 2), .int .u8 (X 3), .int .u8 (X 4), .int .u8 (X 5), .int .u8 (Y 0), .int .u8 (Y 1), .int .u8 (Y 2), .int .u8 (Y 3), .int .u8 (Y 4), .int .u8 (Y 5), .int .u16 K] 25)).heap[w.heap.size]? = some (.cells (eth x y k) 25 (0, 0))) := blk_old HE3.out _
      rcases HR01.out with ⟨rfl, h1, h2⟩ | ⟨h1, h2⟩
      · obtain ⟨e1, ⟨e2, e3⟩, e4, e5⟩ := HR0.out rfl
        obtain ⟨q1, q2, q3, q4⟩ := frm_parts x y k hk hk' f
        have heq := same13 X Y x y K k (fun j hj => by rw [e2]; exact q1 j hj) (fun j hj => by rw [e3]; exact q2 j hj) (by rw [e4]; exact q3)
        have hmn : m = n := by have := HMU.out; omega
        have HG : Hid (∀ j, g j = f j) := fun j => by rw [e5]; exact q4 j
        clear e1 e2 e3 e4 e5 q1 q2 q3 q4
        have hvP : (convert 26 9 (.slice P m cp)).run Try.prog (w3.alloc (.cells #[.int .u8 (X 0), .int .u8 (X 1), .int .u8 (X 2), .int .u8 (X 3), .int .u8 (X 4), .int .u8 (X 5), .int .u8 (Y 0), .int .u8 (Y 1), .int .u8 (Y 2), .int .u8 (Y 3), .int .u8 (Y 4), .int .u8 (Y 5), .int .u16 K] 25)) = .ok (.string (strOfNums (nums n f))) (w3.alloc (.cells #[.int .u8 (X 0), .int .u8 (X 1), .int .u8 (X 2), .int .u8 (X 3), .int .u8 (X 4), .int .u8 (X 5), .int .u8 (Y 0), .int .u8 (Y 1), .int .u8 (Y 2), .int .u8 (Y 3), .int .u8 (Y 4), .int .u8 (Y 5), .int .u16 K] 25)) := by
          have q := run_convert_rd (P := Try.prog) (HP3.out.alloc (.cells #[.int .u8 (X 0), .int .u8 (X 1), .int .u8 (X 2), .int .u8 (X 3), .int .u8 (X 4), .int .u8 (X 5), .int .u8 (Y 0), .int .u8 (Y 1), .int .u8 (Y 2), .int .u8 (Y 3), .int .u8 (Y 4), .int .u8 (Y 5), .int .u16 K] 25)).rd 26 5 9 cp Try.underlying26 Try.underlying5 Try.underlying9
          rw [hmn, nums_congr (g := g) (f := f) fun j _ => HG.out j] at q
          rw [hmn]
          exact q
        have hvA : (convert 26 9 (.slice A n c)).run Try.prog (w3.alloc (.cells #[.int .u8 (X 0), .int .u8 (X 1), .int .u8 (X 2), .int .u8 (X 3), .int .u8 (X 4), .int .u8 (X 5), .int .u8 (Y 0), .int .u8 (Y 1), .int .u8 (Y 2), .int .u8 (Y 3), .int .u8 (Y 4), .int .u8 (Y 5), .int .u16 K] 25)) = .ok (.string (strOfNums (nums n f))) (w3.alloc (.cells #[.int .u8 (X 0), .int .u8 (X 1), .int .u8 (X 2), .int .u8 (X 3), .int .u8 (X 4), .int .u8 (X 5), .int .u8 (Y 0), .int .u8 (Y 1), .int .u8 (Y 2), .int .u8 (Y 3), .int .u8 (Y 4), .int .u8 (Y 5), .int .u16 K] 25)) :=
          run_convert_rd (HR.out.keep HB4.out) 26 5 9 c Try.underlying26 Try.underlying5 Try.underlying9
        clear hmn
        generalize strOfNums (nums n f) = S at *
        obtain ⟨d0, d1, d2, d3, d4, d5, d6, d7, d8, d9, d10, d11, d12⟩ := eth_cells HE4.out
        obtain ⟨a0, a1, a2, a3, a4, a5, a6, a7, a8, a9, a10, a11, a12⟩ := eth_cells (show (w3.alloc (.cells #[.int .u8 (X 0), .int .u8 (X 1), .int .u8 (X 2), .int .u8 (X 3), .int .u8 (X 4), .int .u8 (X 5), .int .u8 (Y 0), .int .u8 (Y 1), .int .u8 (Y 2), .int .u8 (Y 3), .int .u8 (Y 4), .int .u8 (Y 5), .int .u16 K] 25)).heap[w3.heap.size]? = some (.cells (eth X Y K) 25 (0, 0)) from heap_alloc_new w3 _)
        go_wp2_with fail
        go_meet
        exact ⟨HE4.out, HB4.out⟩
      · have hmu2 : 1600 < mu := by have := HMU.out; omega
        clear h2
        rcases h1 with rfl | rfl
        · go_wp2_with fail
          go_meet
          exact ⟨HE4.out, HB4.out⟩
        · go_wp2_with fail
          go_meet
          exact ⟨HE4.out, HB4.out⟩
    · clear hmu
      go_wp2_with fail
      go_meet
      exact ⟨HE2.out, HB2.out⟩
  case rest =>
  clear HW9 HU01 HU2 HE2 HB2
  obtain ⟨hE0, hB0⟩ := hcut
  have HE0 := Lib.hid hE0
  have HB0 := Lib.hid hB0
  obtain ⟨X, Y, K, m, g, r, hX, hY, ⟨hK, hK'⟩, hg, hm, hr01, hr0, r7, _⟩ := read_both n f HF.out hn
  have HR7 := Lib.hid r7
  have HR0 := Lib.hid hr0
  have HR01 := Lib.hid hr01
  clear hE0 hB0 r7 hr0 hr01
  go_wp2_with fail
  go_at_call 7
  refine (HR7.out A c wc hcap hc' ((HR.out.keep HB0.out).more HB0.out.size)).mono ?_
  rintro e w3 ⟨P, cp, rfl, hp3, hb3⟩
  have HP3 := Lib.hid hp3
  have HE3 : Hid (w3.heap[w.heap.size]? = some (.cells (eth x y k) 25 (0, 0))) := (hb3.block _ (lt_heap HE0.out)).trans HE0.out
  have HB3 : Hid (Below w.heap.size w w3) := HB0.out.trans (hb3.mono HB0.out.size)
  clear hp3 hb3 HE0 HB0 HR7
  have HB4 : Hid (Below w.heap.size w (w3.alloc (.cells #[.int .u8 (X 0), .int .u8 (X 1), .int .u8 (X 2), .int .u8 (X 3), .int .u8 (X 4), .int .u8 (X 5), .int .u8 (Y 0), .int .u8 (Y 1), .int .u8 (Y 2), .int .u8 (Y 3), .int .u8 (Y 4), .int .u8 (Y 5), .int .u16 K] 25))) := HB3.out.alloc HB3.out.size _
  have HE4 : Hid ((w3.alloc (.cells #[.int .u8 (X 0), .int .u8 (X 1), .int .u8 (X 2), .int .u8 (X 3), .int .u8 (X 4), .int .u8 (X 5), .int .u8 (Y 0), .int .u8 (Y 1), .int .u8 (Y 2), .int .u8 (Y 3), .int .u8 (Y 4), .int .u8 (Y 5), .int .u16 K] 25)).heap[w.heap.size]? = some (.cells (eth x y k) 25 (0, 0))) := blk_old HE3.out _
  go_upto_if 79 with fail
  go_cut [] from 12 to 94 (fun wx => wx.heap[w.heap.size]? = some (.cells (eth x y k) 25 (0, 0)) ∧ Below w.heap.size w wx)
  case first =>
    rcases HR01.out with ⟨rfl, h1, h2⟩ | ⟨h1, h2⟩
    · obtain ⟨e1, ⟨e2, e3⟩, e4, e5⟩ := HR0.out rfl
      obtain ⟨m3, u3, hu01, w9, _⟩ := write_both X Y hX hY K hK hK' m g hg (by omega)
      have hu3 : u3 = 0 ∧ m3 = n := by omega
      obtain ⟨hu3, hm3⟩ := hu3
      subst hu3
      have HW9 := Lib.hid w9
      have HG : Hid (∀ j, frm X Y K g j = f j) := fun j => by
        rw [e2, e3, e4, e5]
        exact frm_whole f HF.out j
      have HM3 := Lib.hid hm3
      clear e1 e2 e3 e4 e5 hm3 w9 hu01
      obtain ⟨a0, a1, a2, a3, a4, a5, a6, a7, a8, a9, a10, a11, a12⟩ := eth_cells (show (w3.alloc (.cells #[.int .u8 (X 0), .int .u8 (X 1), .int .u8 (X 2), .int .u8 (X 3), .int .u8 (X 4), .int .u8 (X 5), .int .u8 (Y 0), .int .u8 (Y 1), .int .u8 (Y 2), .int .u8 (Y 3), .int .u8 (Y 4), .int .u8 (Y 5), .int .u16 K] 25)).heap[w3.heap.size]? = some (.cells (eth X Y K) 25 (0, 0)) from heap_alloc_new w3 _)
      have hcp : m ≤ cp := HP3.out.cap
      have hcp' : cp ≤ 9223372036854775807 := HP3.out.cap_le
      go_wp2_with fail
      clear a0 a1 a2 a3 a4 a5 a6 a7 a8 a9 a10 a11 a12
      go_at_call 9
      refine (HW9.out P cp (w3.alloc (.cells #[.int .u8 (X 0), .int .u8 (X 1), .int .u8 (X 2), .int .u8 (X 3), .int .u8 (X 4), .int .u8 (X 5), .int .u8 (Y 0), .int .u8 (Y 1), .int .u8 (Y 2), .int .u8 (Y 3), .int .u8 (Y 4), .int .u8 (Y 5), .int .u16 K] 25)) hcp hcp' (HP3.out.alloc _).rd).mono ?_
      rintro e w5 ⟨U3, cu3, rfl, hu5, hb5⟩
      have HE5 : Hid (w5.heap[w.heap.size]? = some (.cells (eth x y k) 25 (0, 0))) := (hb5.block _ (lt_heap HE4.out)).trans HE4.out
      have HB5 : Hid (Below w.heap.size w w5) := HB4.out.trans (hb5.mono HB4.out.size)
      have hvU : (convert 26 9 (.slice U3 m3 cu3)).run Try.prog w5 = .ok (.string (strOfNums (nums n f))) w5 := by
        have q := run_convert_rd (P := Try.prog) hu5.rd 26 5 9 cu3 Try.underlying26 Try.underlying5 Try.underlying9
        rw [HM3.out, nums_congr (g := frm X Y K g) (f := f) fun j _ => HG.out j] at q
        rw [HM3.out]
        exact q
      have hvA : (convert 26 9 (.slice A n c)).run Try.prog w5 = .ok (.string (strOfNums (nums n f))) w5 :=
        run_convert_rd (HR.out.keep HB5.out) 26 5 9 c Try.underlying26 Try.underlying5 Try.underlying9
      clear hu5 hb5 HE4 HB4
      generalize strOfNums (nums n f) = S at *
      go_wp2_with fail
      go_meet
      exact ⟨HE5.out, HB5.out⟩
    · clear h2
      rcases h1 with rfl | rfl
      · go_wp2_with fail
        go_meet
        exact ⟨HE4.out, HB4.out⟩
      · go_wp2_with fail
        go_meet
        exact ⟨HE4.out, HB4.out⟩
  case rest =>
  clear HR0 HR01 HP3 HE3 HB3 HE4 HB4 HF HR HX hX hY hg
  obtain ⟨hE6, hB6⟩ := hcut
  have HE6 := Lib.hid hE6
  have HB6 := Lib.hid hB6
  clear hE6 hB6
  obtain ⟨V, z, hV, hz, hzs, p13, _⟩ := parse_both s (by omega)
  have HV := Lib.hid hV
  have HZS := Lib.hid hzs
  have H15 : Hid (∀ w, Calls Try.prog 15 #[.agg #[.int .u8 (y 0), .int .u8 (y 1), .int .u8 (y 2), .int .u8 (y 3), .int .u8 (y 4), .int .u8 (y 5)]] w fun e w' => e = .returned (.string (rtx y 6)) ∧ Below w.heap.size w w') := fun w => text_any y HY.out w
  have H13 : Hid (∀ w, Calls Try.prog 13 #[.string (rtx y 6)] w fun e w' => e = .returned (.tuple #[.agg #[.int .u8 (y 0), .int .u8 (y 1), .int .u8 (y 2), .int .u8 (y 3), .int .u8 (y 4), .int .u8 (y 5)], .int .i64 0]) ∧ Below w.heap.size w w') := fun w => parse_text y HY.out w
  have P13 : Hid (∀ w, Calls Try.prog 13 #[.string s] w fun e w' => e = .returned (.tuple #[.agg #[.int .u8 (V 0), .int .u8 (V 1), .int .u8 (V 2), .int .u8 (V 3), .int .u8 (V 4), .int .u8 (V 5)], .int .i64 z]) ∧ Below w.heap.size w w') := p13
  clear hV hzs p13 HY
  obtain ⟨d0, d1, d2, d3, d4, d5, d6, d7, d8, d9, d10, d11, d12⟩ := eth_cells HE6.out
  go_wp2_with fail
  clear d0 d1 d2 d3 d4 d5 d6 d7 d8 d9 d10 d11 d12
  go_at_call 15
  refine (H15.out _).mono ?_
  rintro e w7 ⟨rfl, hb7⟩
  have HE7 : Hid (w7.heap[w.heap.size]? = some (.cells (eth x y k) 25 (0, 0))) := (hb7.block _ (lt_heap HE6.out)).trans HE6.out
  have HB7 : Hid (Below w.heap.size w w7) := HB6.out.trans (hb7.mono HB6.out.size)
  clear hb7 HE6 HB6 H15
  go_wp2_with fail
  go_at_call 13
  refine (H13.out _).mono ?_
  rintro e w8 ⟨rfl, hb8⟩
  have HE8 : Hid (w8.heap[w.heap.size]? = some (.cells (eth x y k) 25 (0, 0))) := (hb8.block _ (lt_heap HE7.out)).trans HE7.out
  have HB8 : Hid (Below w.heap.size w w8) := HB7.out.trans (hb8.mono HB7.out.size)
  clear hb8 HE7 HB7 H13
  go_wp2_with fail
  have HY8 : Hid ((w8.alloc (.cells #[.int .u8 (y 0), .int .u8 (y 1), .int .u8 (y 2), .int .u8 (y 3), .int .u8 (y 4), .int .u8 (y 5)] 22)).heap[w8.heap.size]? = some (.cells (arr6 y) 22 (0, 0))) := heap_alloc_new w8 _
  have HE8' : Hid ((w8.alloc (.cells #[.int .u8 (y 0), .int .u8 (y 1), .int .u8 (y 2), .int .u8 (y 3), .int .u8 (y 4), .int .u8 (y 5)] 22)).heap[w.heap.size]? = some (.cells (eth x y k) 25 (0, 0))) := blk_old HE8.out _
  have HB8' : Hid (Below w.heap.size w (w8.alloc (.cells #[.int .u8 (y 0), .int .u8 (y 1), .int .u8 (y 2), .int .u8 (y 3), .int .u8 (y 4), .int .u8 (y 5)] 22))) := HB8.out.alloc HB8.out.size _
  clear HE8 HB8
  go_at_call 13
  refine (P13.out _).mono ?_
  rintro e w9 ⟨rfl, hb9⟩
  have HY10 : Hid ((w9.alloc (.cells #[.int .u8 (V 0), .int .u8 (V 1), .int .u8 (V 2), .int .u8 (V 3), .int .u8 (V 4), .int .u8 (V 5)] 22)).heap[w8.heap.size]? = some (.cells (arr6 y) 22 (0, 0))) := blk_old ((hb9.block _ (lt_heap HY8.out)).trans HY8.out) _
  have HE10 : Hid ((w9.alloc (.cells #[.int .u8 (V 0), .int .u8 (V 1), .int .u8 (V 2), .int .u8 (V 3), .int .u8 (V 4), .int .u8 (V 5)] 22)).heap[w.heap.size]? = some (.cells (eth x y k) 25 (0, 0))) := blk_old ((hb9.block _ (lt_heap HE8'.out)).trans HE8'.out) _
  have HV10 : Hid ((w9.alloc (.cells #[.int .u8 (V 0), .int .u8 (V 1), .int .u8 (V 2), .int .u8 (V 3), .int .u8 (V 4), .int .u8 (V 5)] 22)).heap[w9.heap.size]? = some (.cells (arr6 V) 22 (0, 0))) := heap_alloc_new w9 _
  have HB9 : Hid (Below w.heap.size w w9) := HB8'.out.trans (hb9.mono HB8'.out.size)
  have HB10 : Hid (Below w.heap.size w (w9.alloc (.cells #[.int .u8 (V 0), .int .u8 (V 1), .int .u8 (V 2), .int .u8 (V 3), .int .u8 (V 4), .int .u8 (V 5)] 22))) := HB9.out.alloc HB9.out.size _
  clear hb9 HY8 HE8' HB8' HB9 P13
  have heq : ∀ w, (Op.equalIn 10000 22 (.agg #[.int .u8 (y 0), .int .u8 (y 1), .int .u8 (y 2), .int .u8 (y 3), .int .u8 (y 4), .int .u8 (y 5)]) (.agg #[.int .u8 (y 0), .int .u8 (y 1), .int .u8 (y 2), .int .u8 (y 3), .int .u8 (y 4), .int .u8 (y 5)])).run Try.prog w = .ok true w := fun w => by
    have e := equal6 9998 y y w
    rw [same6_self] at e
    exact e
  obtain ⟨d0, d1, d2, d3, d4, d5, d6, d7, d8, d9, d10, d11, d12⟩ := eth_cells HE10.out
  obtain ⟨y0, y1, y2, y3, y4, y5⟩ := arr6_cells HY10.out
  obtain ⟨v0, v1, v2, v3, v4, v5⟩ := arr6_cells HV10.out
  rcases hz with rfl | rfl
  · have H15 : Hid (∀ w, Calls Try.prog 15 #[.agg #[.int .u8 (V 0), .int .u8 (V 1), .int .u8 (V 2), .int .u8 (V 3), .int .u8 (V 4), .int .u8 (V 5)]] w fun e w' => e = .returned (.string s) ∧ Below w.heap.size w w') := fun w => by
      have e := text_any V HV.out w
      rw [HZS.out rfl] at e
      exact e
    go_wp2_with fail
    go_at_call 15
    refine (H15.out _).mono ?_
    rintro e w11 ⟨rfl, hb11⟩
    have HB11 := Lib.hid (HB10.out.trans (hb11.mono HB10.out.size))
    clear d0 d1 d2 d3 d4 d5 d6 d7 d8 d9 d10 d11 d12 y0 y1 y2 y3 y4 y5 v0 v1 v2 v3 v4 v5 hb11
    go_wp2_with fail
    go_at_call 6
    refine (known_any _).mono ?_
    rintro e w12 ⟨rfl, hb12⟩
    go_wp2_with fail
    go_ret
    exact ⟨rfl, HB11.out.trans (hb12.mono HB11.out.size)⟩
  · go_wp2_with fail
    go_at_call 6
    refine (known_any _).mono ?_
    rintro e w12 ⟨rfl, hb12⟩
    clear d0 d1 d2 d3 d4 d5 d6 d7 d8 d9 d10 d11 d12 y0 y1 y2 y3 y4 y5 v0 v1 v2 v3 v4 v5
    go_wp2_with fail
    go_ret
    exact ⟨rfl, HB10.out.trans (hb12.mono HB10.out.size)⟩
theorem back_any (x y : Nat → Int) (hx : Byt x) (hy : Byt y) (k : Int) (hk : 0 ≤ k) (hk' : k ≤ 65535) (A : Option Addr) (n c : Nat) (f : Nat → Int) (hf : Byt f) (hcap : n ≤ c) (hc' : c ≤ 9223372036854775807) (s : ByteArray) (hs : s.size ≤ 9223372036854775807) (w : World) (hr : Rd w w.heap.size A n f) :
    Calls Try.prog 5 #[.agg (eth x y k), .slice A n c, .string s] w fun e w' => e = .returned (.bool true) ∧ Below w.heap.size w w' := by
  by_cases h : n ≤ 4000
  · by_cases h2 : s.size ≤ 100
    · exact back_short x y hx hy k hk hk' A n c f hf h hcap hc' s h2 w hr
    · exact back_text x y k A n c h s (by omega) hs w
  · exact back_long x y k A n c (by omega) (by omega) s w
end Go.Proofs.Ytekjmjipgndccaa
