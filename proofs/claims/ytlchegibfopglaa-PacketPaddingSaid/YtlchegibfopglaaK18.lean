import Derived.Test.YtlchegibfopglaaRows
import Derived.Test.YtlchegibfopglaaK1
import Derived.Deep.RegionHeld3
import Derived.Deep.RegionWith
import Derived.StillTailTactics
/- The document's answers for layer 2: Read, Write, Ours. -/
namespace Go.Proofs.Ytlchegibfopglaa
set_option maxRecDepth 100000
open Go.RowKit
/-- What stands ahead in a frame, as cells. -/
def eth (d s : Nat → Int) (t : Int) : Array Value := #[.int .u8 (d 0), .int .u8 (d 1), .int .u8 (d 2), .int .u8 (d 3), .int .u8 (d 4), .int .u8 (d 5), .int .u8 (s 0), .int .u8 (s 1), .int .u8 (s 2), .int .u8 (s 3), .int .u8 (s 4), .int .u8 (s 5), .int .u16 t]
def lim (f : Nat → Int) (j k : Nat) : Int := if k < j then f k else 0
theorem eth_get (d s : Nat → Int) (t : Int) (k : Nat) (hk : k < 6) : (eth d s t)[k]? = some (.int .u8 (d k)) ∧ (eth d s t)[6 + k]? = some (.int .u8 (s k)) := by
  match k, hk with
  | 0, _ => exact ⟨rfl, rfl⟩
  | 1, _ => exact ⟨rfl, rfl⟩
  | 2, _ => exact ⟨rfl, rfl⟩
  | 3, _ => exact ⟨rfl, rfl⟩
  | 4, _ => exact ⟨rfl, rfl⟩
  | 5, _ => exact ⟨rfl, rfl⟩
  | k + 6, h => exact absurd h (by omega)
theorem eth_step (f g : Nat → Int) (t : Int) (k : Nat) (hk : k < 6) : ((eth (lim f k) (lim g k) t).setIfInBounds k (.int .u8 (f k))).setIfInBounds (6 + k) (.int .u8 (g k)) = eth (lim f (k + 1)) (lim g (k + 1)) t := by
  match k, hk with
  | 0, _ => rfl
  | 1, _ => rfl
  | 2, _ => rfl
  | 3, _ => rfl
  | 4, _ => rfl
  | 5, _ => rfl
  | k + 6, h => exact absurd h (by omega)
theorem eth_same {d s d' s' : Nat → Int} {t : Int} (hd : ∀ k, k < 6 → d' k = d k) (hs : ∀ k, k < 6 → s' k = s k) : eth d' s' t = eth d s t := by
  unfold eth
  rw [hd 0 (by omega), hd 1 (by omega), hd 2 (by omega), hd 3 (by omega), hd 4 (by omega), hd 5 (by omega), hs 0 (by omega), hs 1 (by omega), hs 2 (by omega), hs 3 (by omega), hs 4 (by omega), hs 5 (by omega)]
/-- The cells of a block of ours, one by one. -/
theorem eth_cells {W : World} {N : Nat} {d s : Nat → Int} {t : Int} {T : TypeId} (h1 : W.heap[N]? = some (.cells (eth d s t) T (0, 0))) :
    W.cell? ⟨N, 0, none⟩ = some (.int .u8 (d 0)) ∧ W.cell? ⟨N, 1, none⟩ = some (.int .u8 (d 1)) ∧ W.cell? ⟨N, 2, none⟩ = some (.int .u8 (d 2)) ∧ W.cell? ⟨N, 3, none⟩ = some (.int .u8 (d 3)) ∧ W.cell? ⟨N, 4, none⟩ = some (.int .u8 (d 4)) ∧ W.cell? ⟨N, 5, none⟩ = some (.int .u8 (d 5)) ∧ W.cell? ⟨N, 6, none⟩ = some (.int .u8 (s 0)) ∧ W.cell? ⟨N, 7, none⟩ = some (.int .u8 (s 1)) ∧ W.cell? ⟨N, 8, none⟩ = some (.int .u8 (s 2)) ∧ W.cell? ⟨N, 9, none⟩ = some (.int .u8 (s 3)) ∧ W.cell? ⟨N, 10, none⟩ = some (.int .u8 (s 4)) ∧ W.cell? ⟨N, 11, none⟩ = some (.int .u8 (s 5)) ∧ W.cell? ⟨N, 12, none⟩ = some (.int .u16 t) :=
  ⟨blk_cell h1 0, blk_cell h1 1, blk_cell h1 2, blk_cell h1 3, blk_cell h1 4, blk_cell h1 5, blk_cell h1 6, blk_cell h1 7, blk_cell h1 8, blk_cell h1 9, blk_cell h1 10, blk_cell h1 11, blk_cell h1 12⟩
theorem eth_free {W : World} {N : Nat} {d s : Nat → Int} {t : Int} {T : TypeId} (h1 : W.heap[N]? = some (.cells (eth d s t) T (0, 0))) :
    W.frozen? ⟨N, 0, none⟩ = false ∧ W.frozen? ⟨N, 1, none⟩ = false ∧ W.frozen? ⟨N, 2, none⟩ = false ∧ W.frozen? ⟨N, 3, none⟩ = false ∧ W.frozen? ⟨N, 4, none⟩ = false ∧ W.frozen? ⟨N, 5, none⟩ = false ∧ W.frozen? ⟨N, 6, none⟩ = false ∧ W.frozen? ⟨N, 7, none⟩ = false ∧ W.frozen? ⟨N, 8, none⟩ = false ∧ W.frozen? ⟨N, 9, none⟩ = false ∧ W.frozen? ⟨N, 10, none⟩ = false ∧ W.frozen? ⟨N, 11, none⟩ = false ∧ W.frozen? ⟨N, 12, none⟩ = false :=
  ⟨blk_free h1 0, blk_free h1 1, blk_free h1 2, blk_free h1 3, blk_free h1 4, blk_free h1 5, blk_free h1 6, blk_free h1 7, blk_free h1 8, blk_free h1 9, blk_free h1 10, blk_free h1 11, blk_free h1 12⟩
set_option maxHeartbeats 400000 in
theorem rread_long (A : Option Addr) (n c : Nat) (hn : 1600 < n) (hn' : n ≤ 9223372036854775807) (w : World) :
    Calls Try.prog 18 #[.slice A n c] w fun e w' => e = .returned (.tuple #[.agg (eth (fun _ => 0) (fun _ => 0) 0), .slice none 0 0, .int .i64 3]) ∧ Below w.heap.size w w' := by
  go_enter Try.func18, Try.ntmps18
  go_wp2
  refine bodyPost_ret (v := .tuple #[.agg (eth (fun _ => 0) (fun _ => 0) 0), .slice none 0 0, .int .i64 3]) (by simp [results, Try.results18, go_sem, eth]) rfl ⟨rfl, ?_⟩
  exact below_alloc2 w _ _
set_option maxHeartbeats 400000 in
theorem rread_short (A : Option Addr) (n c : Nat) (hn : n < 14) (w : World) :
    Calls Try.prog 18 #[.slice A n c] w fun e w' => e = .returned (.tuple #[.agg (eth (fun _ => 0) (fun _ => 0) 0), .slice none 0 0, .int .i64 4]) ∧ Below w.heap.size w w' := by
  go_enter Try.func18, Try.ntmps18
  go_wp2
  refine bodyPost_ret (v := .tuple #[.agg (eth (fun _ => 0) (fun _ => 0) 0), .slice none 0 0, .int .i64 4]) (by simp [results, Try.results18, go_sem, eth]) rfl ⟨rfl, ?_⟩
  exact below_alloc2 w _ _
def ReadGood (base et : Nat) (f : Nat → Int) (n : Nat) (w : World) (e : Ending) (w' : World) : Prop :=
  ∃ A c, e = .returned (.tuple #[.agg (eth f (fun k => f (6 + k)) (f 12 * 256 + f 13)), .slice A (n - 14) c, .int .i64 0]) ∧ Own w' base et A (n - 14) c (fun k => f (14 + k)) ∧ Below base w w'
set_option maxHeartbeats 1000000 in
theorem rread_good (b off n c : Nat) (f : Nat → Int) (hf : Byt f) (hn : 14 ≤ n) (hn' : n ≤ 1600) (hcap : n ≤ c) (hc' : c ≤ 9223372036854775807) (w : World) (hb : b < w.heap.size) (hc : ∀ k, k < n → w.cell? ⟨b, off + k, none⟩ = some (.int .u8 (f k))) :
    Calls Try.prog 18 #[.slice (some ⟨b, off, none⟩) n c] w (ReadGood w.heap.size 5 f n w) := by
  have HC := Lib.hid hc
  clear hc
  have HF := Lib.hid hf
  clear hf
  go_enter Try.func18, Try.ntmps18
  go_wp2
  have hb0 : Below w.heap.size w ((w.alloc (.cells (eth (fun _ => 0) (fun _ => 0) 0) 30)).alloc (.cells (eth (fun _ => 0) (fun _ => 0) 0) 30)) := below_alloc2 w _ _
  have e1 : (w.alloc (.cells (eth (fun _ => 0) (fun _ => 0) 0) 30)).heap.size = w.heap.size + 1 := by simp
  have k0 : ((w.alloc (.cells (eth (fun _ => 0) (fun _ => 0) 0) 30)).alloc (.cells (eth (fun _ => 0) (fun _ => 0) 0) 30)).heap[w.heap.size]? = some (.cells (eth (fun _ => 0) (fun _ => 0) 0) 30 (0, 0)) := blk_old (heap_alloc_new w _) _
  have k1 : ((w.alloc (.cells (eth (fun _ => 0) (fun _ => 0) 0) 30)).alloc (.cells (eth (fun _ => 0) (fun _ => 0) 0) 30)).heap[w.heap.size + 1]? = some (.cells (eth (fun _ => 0) (fun _ => 0) 0) 30 (0, 0)) := by rw [← e1]; exact heap_alloc_new _ _
  go_loopw [6] (fun i wr => ∃ k : Nat, k ≤ 6 ∧ i = .int .i64 k ∧ wr.heap[w.heap.size]? = some (.cells (eth (fun _ => 0) (fun _ => 0) 0) 30 (0, 0)) ∧
    wr.heap[w.heap.size + 1]? = some (.cells (eth (lim f k) (lim (fun j => f (6 + j)) k) 0) 30 (0, 0)) ∧ Below w.heap.size w wr) (fun i _ => 6 - (intOf i).toNat)
  case atStart => exact ⟨0, by omega, rfl, k0, k1, hb0⟩
  case round =>
    clear k0 k1 hb0 e1
    obtain ⟨k, hk, rfl, hz, he, hbl⟩ := hrel
    have HZ := Lib.hid hz
    have HE := Lib.hid he
    clear hz he
    by_cases hlt : k < 6
    · have hx := (hbl.cell (p := ⟨b, off + k, none⟩) hb).trans (HC.out k (by omega))
      have hy := (hbl.cell (p := ⟨b, off + (6 + k), none⟩) hb).trans (HC.out (6 + k) (by omega))
      have hcx := (blk_cell HE.out k).trans (eth_get _ _ _ k hlt).1
      have hcy := (blk_cell HE.out (6 + k)).trans (eth_get _ _ _ k hlt).2
      have hfx := blk_free HE.out k
      have hfy := blk_free HE.out (6 + k)
      have HN : Hid (((wr.setCell ⟨w.heap.size + 1, k, none⟩ (.int .u8 (f k))).setCell ⟨w.heap.size + 1, 6 + k, none⟩ (.int .u8 (f (6 + k)))).heap[w.heap.size + 1]? = some (.cells (eth (lim f (k + 1)) (lim (fun j => f (6 + j)) (k + 1)) 0) 30 (0, 0))) := by
        rw [← eth_step f (fun j => f (6 + j)) 0 k hlt]
        exact blk_set (blk_set HE.out k _) (6 + k) _
      have HN0 : Hid (((wr.setCell ⟨w.heap.size + 1, k, none⟩ (.int .u8 (f k))).setCell ⟨w.heap.size + 1, 6 + k, none⟩ (.int .u8 (f (6 + k)))).heap[w.heap.size]? = some (.cells (eth (fun _ => 0) (fun _ => 0) 0) 30 (0, 0))) :=
        blk_far (blk_far HZ.out (by simp) _) (by simp) _
      go_wp2
      go_roundw
      case rel => exact ⟨k + 1, by omega, by go_num, HN0.out, HN.out, (hbl.setCell (by simp) _).setCell (by simp) _⟩
      case measure => simp [intOf]; omega
    · obtain rfl : k = 6 := by omega
      clear hlt hk
      have e6 : eth (lim f 6) (lim (fun j => f (6 + j)) 6) 0 = eth f (fun k => f (6 + k)) 0 := eth_same (fun k hk => by simp [lim, hk]) (fun k hk => by simp [lim, hk])
      rw [e6] at HE
      clear e6
      have h12 := (hbl.cell (p := ⟨b, off + 12, none⟩) hb).trans (HC.out 12 (by omega))
      have h13 := (hbl.cell (p := ⟨b, off + 13, none⟩) hb).trans (HC.out 13 (by omega))
      obtain ⟨p12, q12⟩ := HF.out 12
      obtain ⟨p13, q13⟩ := HF.out 13
      have hct := blk_cell HE.out 12
      have hft := blk_free HE.out 12
      simp [eth] at hct
      go_wp2
      have i12 : (12 : Int) < (n : Int) := by omega
      have i13 : (13 : Int) < (n : Int) := by omega
      have w1 : IntKind.u16.wrap (f 12) = f 12 := by simp only [IntKind.wrap_u16]; omega
      have w2 : IntKind.u16.wrap (f 13) = f 13 := by simp only [IntKind.wrap_u16]; omega
      have w3 : IntKind.u16.wrap (f 12 * 256) = f 12 * 256 := by simp only [IntKind.wrap_u16]; omega
      have w4 : IntKind.u16.wrap (f 12 * 256 + f 13) = f 12 * 256 + f 13 := by simp only [IntKind.wrap_u16]; omega
      go_still_tail 11, (by kernel_rfl)
      clear w1 w2 w3 w4 i12 i13
      change wpList _ _ _ _ _ wr.drew
      have HT : Hid ((wr.setCell ⟨w.heap.size + 1, 12, none⟩ (.int .u16 (f 12 * 256 + f 13))).drew.heap[w.heap.size + 1]? = some (.cells (eth f (fun k => f (6 + k)) (f 12 * 256 + f 13)) 30 (0, 0))) := blk_set HE.out 12 _
      have HT0 : Hid ((wr.setCell ⟨w.heap.size + 1, 12, none⟩ (.int .u16 (f 12 * 256 + f 13))).drew.heap[w.heap.size]? = some (.cells (eth (fun _ => 0) (fun _ => 0) 0) 30 (0, 0))) := blk_far HZ.out (by simp) _
      have hbt : Below w.heap.size w (wr.setCell ⟨w.heap.size + 1, 12, none⟩ (.int .u16 (f 12 * 256 + f 13))).drew := (hbl.setCell (by simp) _).drew
      clear HE HZ hbl h12 h13
      go_wp2
      clear hct hft
      generalize (wr.setCell ⟨w.heap.size + 1, 12, none⟩ (.int .u16 (f 12 * 256 + f 13))).drew = w2 at *
      obtain ⟨i0, hi0, hz0, hz1, hz2⟩ := info_parts Try.info5
      have HI0 := Lib.hid hi0
      have HZ0 := Lib.hid hz0
      have HZ1 := Lib.hid hz1
      have HZ2 := Lib.hid hz2
      clear hi0 hz0 hz1 hz2
      have HR : Hid (Rd w2 w2.heap.size (some ⟨b, off, none⟩) n f) := (Rd.keep (.inr ⟨b, off, rfl, hb, HC.out⟩) hbt).more hbt.size
      have hl1 := lt_heap HT.out
      have HD : Hid (w2.drew.heap[w.heap.size + 1]? = some (.cells (eth f (fun k => f (6 + k)) (f 12 * 256 + f 13)) 30 (0, 0))) := HT.out
      have HB : Hid ((w2.alloc (.cells #[] 5)).drew.heap[w.heap.size + 1]? = some (.cells (eth f (fun k => f (6 + k)) (f 12 * 256 + f 13)) 30 (0, 0))) := blk_old HT.out _
      go_region_held3 (fun W => W.cell? ⟨w.heap.size + 1, 0, none⟩ = some (.int .u8 (f 0)) ∧ W.cell? ⟨w.heap.size + 1, 1, none⟩ = some (.int .u8 (f 1)) ∧ W.cell? ⟨w.heap.size + 1, 2, none⟩ = some (.int .u8 (f 2)) ∧ W.cell? ⟨w.heap.size + 1, 3, none⟩ = some (.int .u8 (f 3)) ∧ W.cell? ⟨w.heap.size + 1, 4, none⟩ = some (.int .u8 (f 4)) ∧ W.cell? ⟨w.heap.size + 1, 5, none⟩ = some (.int .u8 (f 5)) ∧ W.cell? ⟨w.heap.size + 1, 6, none⟩ = some (.int .u8 (f (6 + 0))) ∧ W.cell? ⟨w.heap.size + 1, 7, none⟩ = some (.int .u8 (f (6 + 1))) ∧ W.cell? ⟨w.heap.size + 1, 8, none⟩ = some (.int .u8 (f (6 + 2))) ∧ W.cell? ⟨w.heap.size + 1, 9, none⟩ = some (.int .u8 (f (6 + 3))) ∧ W.cell? ⟨w.heap.size + 1, 10, none⟩ = some (.int .u8 (f (6 + 4))) ∧ W.cell? ⟨w.heap.size + 1, 11, none⟩ = some (.int .u8 (f (6 + 5))) ∧ W.cell? ⟨w.heap.size + 1, 12, none⟩ = some (.int .u16 (f 12 * 256 + f 13))) (first | (with_reducible exact eth_cells HD.out) | (with_reducible exact eth_cells HB.out) | (with_reducible exact eth_cells HA1.out) | exact eth_cells (blk_far (blk_far (blk_far (blk_far (blk_far (blk_far (blk_far (blk_far (blk_far (blk_far (blk_far (blk_far (blk_far HA1.out (by simp) _) (by simp) _) (by simp) _) (by simp) _) (by simp) _) (by simp) _) (by simp) _) (by simp) _) (by simp) _) (by simp) _) (by simp) _) (by simp) _) (by simp) _))
        (first
        | (refine step_append_rd rfl (.tmp 47) (.tmp 49) _ rfl w2.heap.size 5 i0 Try.underlying22 HI0.out HZ0.out HZ1.out HZ2.out (n := 0) (f := f) rfl (Own.fresh w2 _ _ rfl (Nat.le_refl _) _ f) rfl ((HR.out.cut (k := 14) hn hcap).keep (below_alloc w2 _).drew) (by omega) (alloc_le w2 _) ?_
           intro A4 c4 w4 hown4 hg4
           have HA0 := Lib.hid ((hg4.block w.heap.size (by simp; omega) (by simp [Value.ownBlock]; omega)).trans (blk_old HT0.out _))
           have HA1 := Lib.hid ((hg4.block (w.heap.size + 1) (by simp; omega) (by simp [Value.ownBlock]; omega)).trans (blk_old HT.out _))
           have HO4 := Lib.hid hown4
           have HG4 := Lib.hid hg4
           clear hown4 hg4
           obtain ⟨z0, z1, z2, z3, z4, z5, z6, z7, z8, z9, z10, z11, z12⟩ := eth_cells HA0.out
           obtain ⟨y0, y1, y2, y3, y4, y5, y6, y7, y8, y9, y10, y11, y12⟩ := eth_free HA0.out))
      have hb4 : Below w.heap.size w w4 := ((hbt.alloc hbt.size _).drew).grown HG4.out (Nat.le_trans hbt.size (alloc_le w2 _)) (by intro k hk; simp [Value.ownBlock] at hk; have := hbt.size; omega)
      have hNl : w.heap.size < w2.heap.size := by omega
      have HO5 : Hid (Own w4 w2.heap.size 5 A4 (n - 14) c4 (fun k => f (14 + k))) := by
        have e := HO4.out
        rw [Nat.zero_add] at e
        exact e.same fun k _ => by simp [cat]
      go_wp2
      all_goals
        refine bodyPost_ret (v := .tuple #[.agg (eth f (fun k => f (6 + k)) (f 12 * 256 + f 13)), .slice A4 (n - 14) c4, .int .i64 0]) (by simp [results, Try.results18, go_sem, eth, z0, z1, z2, z3, z4, z5, z6, z7, z8, z9, z10, z11, z12]) rfl ⟨A4, c4, rfl, ?_, ?_⟩
        · exact Own.le (Own.far (Own.far (Own.far (Own.far (Own.far (Own.far (Own.far (Own.far (Own.far (Own.far (Own.far (Own.far (Own.far HO5.out (p := ⟨w.heap.size, 0, none⟩) hNl _) (p := ⟨w.heap.size, 1, none⟩) hNl _) (p := ⟨w.heap.size, 2, none⟩) hNl _) (p := ⟨w.heap.size, 3, none⟩) hNl _) (p := ⟨w.heap.size, 4, none⟩) hNl _) (p := ⟨w.heap.size, 5, none⟩) hNl _) (p := ⟨w.heap.size, 6, none⟩) hNl _) (p := ⟨w.heap.size, 7, none⟩) hNl _) (p := ⟨w.heap.size, 8, none⟩) hNl _) (p := ⟨w.heap.size, 9, none⟩) hNl _) (p := ⟨w.heap.size, 10, none⟩) hNl _) (p := ⟨w.heap.size, 11, none⟩) hNl _) (p := ⟨w.heap.size, 12, none⟩) hNl _) (Nat.le_of_lt hNl)
        · exact (Below.setCell (Below.setCell (Below.setCell (Below.setCell (Below.setCell (Below.setCell (Below.setCell (Below.setCell (Below.setCell (Below.setCell (Below.setCell (Below.setCell (Below.setCell hb4 (p := ⟨w.heap.size, 0, none⟩) (Nat.le_refl _) _) (p := ⟨w.heap.size, 1, none⟩) (Nat.le_refl _) _) (p := ⟨w.heap.size, 2, none⟩) (Nat.le_refl _) _) (p := ⟨w.heap.size, 3, none⟩) (Nat.le_refl _) _) (p := ⟨w.heap.size, 4, none⟩) (Nat.le_refl _) _) (p := ⟨w.heap.size, 5, none⟩) (Nat.le_refl _) _) (p := ⟨w.heap.size, 6, none⟩) (Nat.le_refl _) _) (p := ⟨w.heap.size, 7, none⟩) (Nat.le_refl _) _) (p := ⟨w.heap.size, 8, none⟩) (Nat.le_refl _) _) (p := ⟨w.heap.size, 9, none⟩) (Nat.le_refl _) _) (p := ⟨w.heap.size, 10, none⟩) (Nat.le_refl _) _) (p := ⟨w.heap.size, 11, none⟩) (Nat.le_refl _) _) (p := ⟨w.heap.size, 12, none⟩) (Nat.le_refl _) _)
end Go.Proofs.Ytlchegibfopglaa
