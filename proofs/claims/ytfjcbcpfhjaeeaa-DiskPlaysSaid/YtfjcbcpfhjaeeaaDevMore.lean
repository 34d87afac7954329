/-
  What the methods of package disk compute (chapter 3), more: Write, Sync, Durable, Waits.
-/
import Derived.Test.YtfjcbcpfhjaeeaaDevCalls
namespace Go.Proofs.Ytfjcbcpfhjaeeaa.DevM
open Go.ChangeShapes Go.WideShapes Go.ChangeAt Go.RowKit
open Go.Proofs.Ytfjcbcpfhjaeeaa.SumM Go.Proofs.Ytfjcbcpfhjaeeaa.Mem Go.Proofs.Ytfjcbcpfhjaeeaa.Blk Go.Proofs.Ytfjcbcpfhjaeeaa.PageM Go.Proofs.Ytfjcbcpfhjaeeaa.Str Go.Proofs.Ytfjcbcpfhjaeeaa.Dev Go.Proofs.Ytfjcbcpfhjaeeaa.LibC Go.Proofs.Ytfjcbcpfhjaeeaa.DevC Go.Proofs.Ytfjcbcpfhjaeeaa.Stages

section
variable {w : World} {d D W : Nat} {G : Nat → Prop} {S : Dv}

/-- What a Write that is refused makes. -/
def badS (S : Dv) (p : Int) (n : Nat) : Dv := if hasI S p && n == 24 then accS S else S

theorem write_bad (h : DevAt w d D W G S) (p : Int) (A : Option Addr) (n cap : Nat) (hlo : -9223372036854775808 ≤ p) (hhi : p < 9223372036854775808) (hm : n ≤ maxLen) (hn : (S.n : Int) < 9223372036854775807) (hb : (S.bad : Int) < 9223372036854775807) (hc : writeC S p n ≠ 0) :
    Calls Try.prog 13 #[.pointer (some ⟨d, 0, none⟩), .int .i64 p, .slice A n cap] w (DevPost d D W G w (.int .i64 (writeC S p n)) (badS S p n)) := by
  unfold maxLen at hm
  have HB : Hid (badS S p n = if hasI S p && n == 24 then accS S else S) := rfl
  have HH := Lib.hid (has_any h p hlo hhi)
  have HA := Lib.hid (access_any h hn hb)
  have H := Lib.hid h
  have HC : Hid (writeC S p n = if hasI S p && n == 24 then accC S else 1) := rfl
  clear h
  cases hp : hasI S p with
  | false =>
    rw [hp] at HH HC HB
    clear hp hc
    go_enter Try.func13, Try.ntmps13
    go_wp2_with (go_at_call 30; (with_reducible refine HH.out.mono ?_); rintro e w' ⟨rfl, rfl⟩)
    go_ret
    exact ⟨by rw [HC.out]; rfl, by rw [HB.out]; exact H.out, Kept.refl _ _⟩
  | true =>
    rw [hp] at HH HC HB
    by_cases h24 : n = 24
    · subst h24
      rw [HC.out] at hc
      have hc0 : accC S ≠ 0 := hc
      have hc' : (accC S == 0) = false := by simpa using hc0
      have hc'' : (accC S != 0) = true := by simpa using hc0
      clear hp hc hc0
      generalize accC S = c at *
      go_enter Try.func13, Try.ntmps13
      go_wp2_with (first
        | (go_at_call 30; (with_reducible refine HH.out.mono ?_); rintro e w' ⟨rfl, rfl⟩)
        | (go_at_call 31; (with_reducible refine HA.out.mono ?_); rintro e w1 ⟨⟨rfl, hdev, hk⟩, hsz⟩; have HD := Lib.hid hdev; have HK := Lib.hid hk; clear hdev hk hsz))
      go_ret
      exact ⟨by rw [HC.out]; rfl, by rw [HB.out]; exact HD.out, HK.out⟩
    · have hne : ((n : Int) != 24) = true := by simpa [bne_iff_ne] using (by omega : ¬ (n : Int) = 24)
      have HN : Hid ((n == 24) = false) := by show _ = _; simpa using h24
      rw [HN.out] at HC
      clear hp hc h24
      go_enter Try.func13, Try.ntmps13
      go_wp2_with (go_at_call 30; (with_reducible refine HH.out.mono ?_); rintro e w' ⟨rfl, rfl⟩)
      go_ret
      exact ⟨by rw [HC.out]; rfl, by rw [HB.out, HN.out]; exact H.out, Kept.refl _ _⟩

set_option maxHeartbeats 1000000 in
theorem write_good (h : DevAt w d D W G S) (k : Nat) (hk : k < S.N) (A : Option Addr) (cap B : Nat) (zs : List Int) (hs : ∀ w', Kept (Own d D W) w w' → Sl w' B .u8 A 24 zs) (hz : Bytes zs) (low : ∀ x, G x → x < w.heap.size)
    (hn : (S.n : Int) < 9223372036854775807) (hb : (S.bad : Int) < 9223372036854775807) (hc : accC S = 0) :
    Calls Try.prog 13 #[.pointer (some ⟨d, 0, none⟩), .int .i64 (k : Int), .slice A 24 cap] w (DevPost d D W G w (.int .i64 0) (putS (accS S) k zs)) := by
  have hN := h.size
  have HH := Lib.hid (has_any h (k : Int) (by omega) (by omega))
  have hp : hasI S (k : Int) = true := by simp [hasI, hk]
  have HA := Lib.hid (access_any h hn hb)
  rw [hc] at HA
  rw [hp] at HH
  have HS := Lib.hid hs
  have HL := Lib.hid low
  clear hp hc h hs low
  go_enter Try.func13, Try.ntmps13
  go_upto_region 7 with (first
      | (go_at_call 30; (with_reducible refine HH.out.mono ?_); rintro e w' ⟨rfl, rfl⟩)
      | (go_at_call 31; (with_reducible refine HA.out.mono ?_); rintro e w1 ⟨⟨rfl, hdev, hk⟩, hsz⟩; have HD := Lib.hid hdev; have HK := Lib.hid hk; have HZ := Lib.hid hsz; clear hdev hk hsz))
  have hs1 : Sl w1.drew B .u8 A 24 zs := HS.out _ HK.out.drew
  have CL := Lib.hid (clone_any A 24 cap B zs w1.drew (by omega) (by omega) hs1)
  have c1 := HD.out.c1
  rw [accS_N] at c1
  have hdW : d ≠ W := HD.out.ne.2.1
  have hkz : (k : Int) < (S.N : Int) := by omega
  have q1 := up_cell (F := (· = W)) (w := w1.drew) c1 (fun e => hdW e)
  clear hs1 c1 HH HA
  refine wp_region_stages (Kept (· = W)) (kept_refl _) (kept_trans _) [([0, 1, 2, 3, 4, 5], 6), ([7], 8)] [] (by kernel_rfl) (by kernel_rfl) ?_
  simp only [selSt, sel, List.map_cons, List.map_nil, List.getD_cons_succ, List.getD_cons_zero]
  refine st_cons fun K1 hK1 => ?_
  repeat (go_big_quiet_step (fail))
  refine wpQuiet_nil ?_
  clear q1
  go_wp2_with (go_at_call 32; (with_reducible refine CL.out.mono ?_); rintro e w2 ⟨g, c', rfl, hg, hrow, h1, h2, hgr⟩; have HG := Lib.hid hg; have HR := Lib.hid hrow; have HGR := Lib.hid hgr; clear hg hrow hgr)
  refine norm_up (hK1 _ _ (HGR.out.kept) ?_)
  clear hK1 K1 CL
  have HD2 : Hid (DevAt w2 d D W G (accS S)) := HD.out.drew.grow HGR.out
  have hwr := HD2.out.wr
  obtain ⟨wv, hrow, _⟩ := hwr
  have hcell := hrow.cell (i := k) (by rw [accS_N]; exact hk)
  have hf := hrow.frozen k
  have hgG : ¬ G g := fun x => by have := HL.out g x; have := HZ.out; have := HG.out; simp at this; omega
  have HI : Hid (Img w2 G (.slice (some ⟨g, 0, none⟩) 24 c') zs) := Img.of_row HR.out (HS.out _ (Kept.refl _ _)).len hz h1 h2 hgG
  clear hrow hgG
  refine st_cons fun K2 hK2 => ?_
  repeat (go_big_quiet_step (fail))
  refine wpQuiet_nil ?_
  go_wp2
  refine norm_up (hK2 _ _ (kept_set _ _ _ _) (st_nil fun K3 hK3 => wpQuiet_nil (hK3 _ ?_)))
  clear hK2 K2 K3 hK3
  have HF : Hid (DevAt (w2.setCell ⟨W, k, none⟩ (.slice (some ⟨g, 0, none⟩) 24 c')) d D W G (putS (accS S) k zs)) := HD2.out.putW HI.out
  have HKF : Hid (Kept (Own d D W) w (w2.setCell ⟨W, k, none⟩ (.slice (some ⟨g, 0, none⟩) 24 c'))) := ((HK.out.drew).then HGR.out (fun _ _ x => x.elim)).setCell (fun _ => .inr (.inr rfl)) _
  clear hcell hf
  go_wp2
  go_ret
  exact ⟨rfl, HF.out, HKF.out⟩
end
end Go.Proofs.Ytfjcbcpfhjaeeaa.DevM
