/-
  What the methods of package disk compute (chapter 3), at every device and argument.
-/
import Derived.Test.YtfjcbcpfhjaeeaaLibCalls
import Derived.Deep.Cut
import Derived.Deep.DeepCutAuto
import Derived.Deep.CutBlock
import Derived.WalkSpells
namespace Go.Proofs.Ytfjcbcpfhjaeeaa.DevC
open Go.ChangeShapes Go.WideShapes Go.ChangeAt Go.RowKit
open Go.Proofs.Ytfjcbcpfhjaeeaa.SumM Go.Proofs.Ytfjcbcpfhjaeeaa.Mem Go.Proofs.Ytfjcbcpfhjaeeaa.Blk Go.Proofs.Ytfjcbcpfhjaeeaa.PageM Go.Proofs.Ytfjcbcpfhjaeeaa.Str Go.Proofs.Ytfjcbcpfhjaeeaa.Dev Go.Proofs.Ytfjcbcpfhjaeeaa.LibC Go.Proofs.Ytfjcbcpfhjaeeaa.Stages

section
variable {w : World} {d D W : Nat} {G : Nat → Prop} {S : Dv}

theorem has_any (h : DevAt w d D W G S) (p : Int) (hlo : -9223372036854775808 ≤ p) (hhi : p < 9223372036854775808) :
    Calls Try.prog 30 #[.pointer (some ⟨d, 0, none⟩), .int .i64 p] w fun e w' => e = .returned (.bool (hasI S p)) ∧ w = w' := by
  have c0 := h.c0
  have hN := h.size
  have HP : Hid (hasI S p = (decide (0 ≤ p) && decide (p < S.N))) := rfl
  clear h
  obtain ⟨N, du, wr, n, bad, down⟩ := S
  simp only at c0 hN HP
  by_cases h0 : 0 ≤ p
  · by_cases h1 : p < (N : Int)
    · go_enter Try.func30, Try.ntmps30
      go_wp2
      go_ret
      exact ⟨by rw [HP.out]; simp [h0, h1], rfl⟩
    · have h1' : (N : Int) ≤ p := by omega
      go_enter Try.func30, Try.ntmps30
      go_wp2
      go_ret
      exact ⟨by rw [HP.out]; simp [h1], rfl⟩
  · have h0' : p < 0 := by omega
    go_enter Try.func30, Try.ntmps30
    go_wp2
    go_ret
    exact ⟨by rw [HP.out, decide_eq_false (by omega)]; rfl, rfl⟩

theorem accesses_any (h : DevAt w d D W G S) :
    Calls Try.prog 27 #[.pointer (some ⟨d, 0, none⟩)] w fun e w' => e = .returned (.int .i64 (S.n : Int)) ∧ w = w' := by
  have c2 := h.c2
  clear h
  go_enter Try.func27, Try.ntmps27
  go_wp2
  go_ret
  exact ⟨rfl, rfl⟩

/-- A code, and the device behind the call. -/
def DevPost (d D W : Nat) (G : Nat → Prop) (w : World) (v : Value) (S' : Dv) (e : Ending) (w' : World) : Prop :=
  e = .returned v ∧ DevAt w' d D W G S' ∧ Kept (Own d D W) w w'

theorem access_any (h : DevAt w d D W G S) (hn : (S.n : Int) < 9223372036854775807) (hb : (S.bad : Int) < 9223372036854775807) :
    Calls Try.prog 31 #[.pointer (some ⟨d, 0, none⟩)] w fun e w' => DevPost d D W G w (.int .i64 (accC S)) (accS S) e w' ∧ w'.heap.size = w.heap.size := by
  have c2 := h.c2
  have c3 := h.c3
  have c4 := h.c4
  have f2 := h.fr 2
  have f3 := h.fr 3
  have H := Lib.hid h
  have HC : Hid (accC S = if S.down then 12 else if S.bad = 1 then 9 else 0) := rfl
  have HS : Hid (accS S = if S.down then S else { S with n := S.n + 1, bad := S.bad - 1 }) := rfl
  clear h
  obtain ⟨N, du, wr, n, bad, down⟩ := S
  simp only at c2 c3 c4 HC HS hn hb
  cases down with
  | true =>
    go_enter Try.func31, Try.ntmps31
    go_wp2
    go_ret
    exact ⟨⟨by rw [HC.out]; rfl, by rw [HS.out]; exact H.out, Kept.refl _ _⟩, rfl⟩
  | false =>
    have H1 : Hid (DevAt (w.setCell ⟨d, 2, none⟩ (.int .i64 ((n + 1 : Nat) : Int))) d D W G ⟨N, du, wr, n + 1, bad, false⟩) := H.out.field rfl rfl rfl rfl
    have HK1 : Hid (Kept (Own d D W) w (w.setCell ⟨d, 2, none⟩ (.int .i64 ((n + 1 : Nat) : Int)))) := (Kept.refl _ _).setCell (fun _ => .inl rfl) _
    have E1 : Hid (((n + 1 : Nat) : Int) = (n : Int) + 1) := by show _ = _; omega
    have H2 : Hid (DevAt ((w.setCell ⟨d, 2, none⟩ (.int .i64 ((n + 1 : Nat) : Int))).setCell ⟨d, 3, none⟩ (.int .i64 ((bad - 1 : Nat) : Int))) d D W G ⟨N, du, wr, n + 1, bad - 1, false⟩) := H1.out.field rfl rfl rfl rfl
    have HK2 : Hid (Kept (Own d D W) w ((w.setCell ⟨d, 2, none⟩ (.int .i64 ((n + 1 : Nat) : Int))).setCell ⟨d, 3, none⟩ (.int .i64 ((bad - 1 : Nat) : Int)))) := HK1.out.setCell (fun _ => .inl rfl) _
    rw [E1.out] at H1 HK1 H2 HK2
    by_cases h0 : bad = 0
    · subst h0
      simp only [Int.natCast_zero, Int.cast_ofNat_Int] at c3
      go_enter Try.func31, Try.ntmps31
      go_wp2
      go_ret
      exact ⟨⟨by rw [HC.out]; rfl, by rw [HS.out]; exact H1.out, HK1.out⟩, by simp⟩
    · have E2 : Hid (((bad - 1 : Nat) : Int) = (bad : Int) - 1) := by show _ = _; omega
      rw [E2.out] at H2 HK2
      have h0' : ((bad : Int) == 0) = false := by simpa using h0
      by_cases h1 : bad = 1
      · subst h1
        simp only [Int.natCast_one, Int.cast_ofNat_Int] at c3 H2 HK2
        go_enter Try.func31, Try.ntmps31
        go_wp2
        go_ret
        exact ⟨⟨by rw [HC.out]; rfl, by rw [HS.out]; exact H2.out, HK2.out⟩, by simp⟩
      · have h1' : ((bad : Int) - 1 == 0) = false := by
          rw [beq_eq_false_iff_ne]; omega
        have HC' : Hid (accC ⟨N, du, wr, n, bad, false⟩ = 0) := by
          show _ = _
          rw [HC.out, if_neg (by decide), if_neg h1]
        go_enter Try.func31, Try.ntmps31
        go_wp2
        go_ret
        exact ⟨⟨by rw [HC'.out]; rfl, by rw [HS.out]; exact H2.out, HK2.out⟩, by simp⟩

theorem fail_any (h : DevAt w d D W G S) (m : Int) :
    Calls Try.prog 18 #[.pointer (some ⟨d, 0, none⟩), .int .i64 m] w (DevPost d D W G w (.bool (failB m)) (failS S m)) := by
  have f3 := h.fr 3
  have c3 := h.c3
  have H := Lib.hid h
  have HB : Hid (failB m = (decide (0 ≤ m) && decide (m ≤ 1000000))) := rfl
  have HS : Hid (failS S m = if failB m then { S with bad := m.toNat } else S) := rfl
  clear h
  by_cases h0 : 0 ≤ m
  · by_cases h1 : m ≤ 1000000
    · have H1 : Hid (DevAt (w.setCell ⟨d, 3, none⟩ (.int .i64 ((m.toNat : Nat) : Int))) d D W G { S with bad := m.toNat }) := H.out.field rfl rfl rfl rfl
      rw [Int.toNat_of_nonneg h0] at H1
      have HB' : Hid (failB m = true) := by show _ = _; rw [HB.out]; simp [h0, h1]
      have HK : Hid (Kept (Own d D W) w (w.setCell ⟨d, 3, none⟩ (.int .i64 m))) := (Kept.refl _ _).setCell (fun _ => .inl rfl) _
      go_enter Try.func18, Try.ntmps18
      go_wp2
      go_ret
      exact ⟨by rw [HB'.out]; rfl, by rw [HS.out, HB'.out]; exact H1.out, HK.out⟩
    · have h1' : 1000000 < m := by omega
      have HB' : Hid (failB m = false) := by show _ = _; rw [HB.out]; simp [h1]
      go_enter Try.func18, Try.ntmps18
      go_wp2
      go_ret
      exact ⟨by rw [HB'.out]; rfl, by rw [HS.out, HB'.out]; exact H.out, Kept.refl _ _⟩
  · have h0' : m < 0 := by omega
    have HB' : Hid (failB m = false) := by show _ = _; rw [HB.out]; simp [h0]
    go_enter Try.func18, Try.ntmps18
    go_wp2
    go_ret
    exact ⟨by rw [HB'.out]; rfl, by rw [HS.out, HB'.out]; exact H.out, Kept.refl _ _⟩

theorem accS_N (S : Dv) : (accS S).N = S.N := by unfold accS; split <;> rfl
theorem accS_dur (S : Dv) : (accS S).dur = S.dur := by unfold accS; split <;> rfl
theorem accS_wr (S : Dv) : (accS S).wr = S.wr := by unfold accS; split <;> rfl
theorem hasI_nat {k : Nat} (h : hasI S (k : Int) = true) : k < S.N := by
  unfold hasI at h
  simp at h
  omega

/-- What Read tells: the code, and the bytes in memory of their own. -/
def ReadPost (d D W : Nat) (G : Nat → Prop) (w : World) (c : Int) (zs : List Int) (S' : Dv) (e : Ending) (w' : World) : Prop :=
  ∃ A n cap, e = .returned (.tuple #[.slice A n cap, .int .i64 c]) ∧ (c ≠ 0 → A = none ∧ n = 0) ∧ (c = 0 → n = 24 ∧ ∃ g, A = some ⟨g, 0, none⟩ ∧ w.heap.size ≤ g ∧ NRow w' g 24 .u8 zs) ∧
    DevAt w' d D W (fun k => G k ∨ w.heap.size ≤ k) S' ∧ Kept (Own d D W) w w'

theorem read_bad (h : DevAt w d D W G S) (p : Int) (hlo : -9223372036854775808 ≤ p) (hhi : p < 9223372036854775808) (hn : (S.n : Int) < 9223372036854775807) (hb : (S.bad : Int) < 9223372036854775807) (hc : readC S p ≠ 0) :
    Calls Try.prog 11 #[.pointer (some ⟨d, 0, none⟩), .int .i64 p] w fun e w' => e = .returned (.tuple #[.slice none 0 0, .int .i64 (readC S p)]) ∧ DevAt w' d D W G (readS S p) ∧ Kept (Own d D W) w w' ∧ w'.heap.size = w.heap.size := by
  have HH := Lib.hid (has_any h p hlo hhi)
  have HA := Lib.hid (access_any h hn hb)
  have H := Lib.hid h
  have HC : Hid (readC S p = if hasI S p then accC S else 1) := rfl
  have HS : Hid (readS S p = if hasI S p then accS S else S) := rfl
  clear h
  cases hp : hasI S p with
  | false =>
    rw [hp] at HH HC HS
    clear hp hc
    go_enter Try.func11, Try.ntmps11
    go_wp2_with (go_at_call 30; (with_reducible refine HH.out.mono ?_); rintro e w' ⟨rfl, rfl⟩)
    go_ret2
    exact ⟨by rw [HC.out]; rfl, by rw [HS.out]; exact H.out, Kept.refl _ _, rfl⟩
  | true =>
    rw [hp] at HH HC HS
    rw [HC.out, if_pos rfl] at hc
    have hc' : (accC S == 0) = false := by simpa using hc
    have hc'' : (accC S != 0) = true := by simpa using hc
    clear hp hc
    generalize accC S = c at *
    go_enter Try.func11, Try.ntmps11
    go_wp2_with (first
      | (go_at_call 30; (with_reducible refine HH.out.mono ?_); rintro e w' ⟨rfl, rfl⟩)
      | (go_at_call 31; (with_reducible refine HA.out.mono ?_); rintro e w1 ⟨⟨rfl, hdev, hk⟩, hsz⟩; have HD := Lib.hid hdev; have HK := Lib.hid hk; have HZ := Lib.hid hsz; clear hdev hk hsz))
    go_ret2
    exact ⟨by rw [HC.out]; rfl, by rw [HS.out]; exact HD.out, HK.out, HZ.out⟩

theorem isNone_some {α : Type} (a : α) : (some a).isNone = false := rfl

set_option maxHeartbeats 1000000 in
theorem read_good (h : DevAt w d D W G S) (k : Nat) (hk : k < S.N) (hn : (S.n : Int) < 9223372036854775807) (hb : (S.bad : Int) < 9223372036854775807) (hc : accC S = 0) :
    Calls Try.prog 11 #[.pointer (some ⟨d, 0, none⟩), .int .i64 (k : Int)] w (ReadPost d D W G w 0 (cur S k) (accS S)) := by
  have hN := h.size
  have HH := Lib.hid (has_any h (k : Int) (by omega) (by omega))
  have hp : hasI S (k : Int) = true := by simp [hasI, hk]
  have HA := Lib.hid (access_any h hn hb)
  rw [hc] at HA
  rw [hp] at HH
  clear hp hc
  have q22 : ∀ (w : World) (a : Option Addr) (n c n' c' : Nat), (binOp .neq 28 (.slice a n c) (.slice none n' c')).run Try.prog w = .ok (.bool (!a.isNone)) w := fun w a n c n' c' => run_neq_slice_nil_any w _ _ a n c n' c' Try.underlying28
  have HCU : Hid (cur S k = (S.wr k).getD (S.dur k)) := rfl
  clear h
  go_enter Try.func11, Try.ntmps11
  go_upto_region 8 with (first
      | (go_at_call 30; (with_reducible refine HH.out.mono ?_); rintro e w' ⟨rfl, rfl⟩)
      | (go_at_call 31; (with_reducible refine HA.out.mono ?_); rintro e w1 ⟨⟨rfl, hdev, hk⟩, hsz⟩; have HD := Lib.hid hdev; have HK := Lib.hid hk; have HZ := Lib.hid hsz; clear hdev hk hsz))
  have hd := HD.out
  have c0 := hd.c0
  have c1 := hd.c1
  obtain ⟨dv, hdr, hdi⟩ := hd.dur
  obtain ⟨wv, hwr, hwi⟩ := hd.wr
  have hdk := hdi k (by rw [accS_N]; exact hk)
  have hwk := hwi k (by rw [accS_N]; exact hk)
  have r0 := hdr.cell (i := k) (by rw [accS_N]; exact hk)
  have r1 := hwr.cell (i := k) (by rw [accS_N]; exact hk)
  rw [accS_N] at c0 c1
  rw [accS_dur] at hdk
  rw [accS_wr] at hwk
  have hkz : (k : Int) < (S.N : Int) := by omega
  clear hd hdr hdi hwr hwi HH HA
  generalize dv k = x at *
  generalize wv k = y at *
  generalize S.wr k = o at *
  generalize S.dur k = z at *
  generalize S.N = N at *
  cases o with
  | none =>
    obtain rfl : y = .slice none 0 0 := hwk
    obtain ⟨b, c, rfl, h24, hm, hsl⟩ := hdk.sl
    clear hdk
    have CL := Lib.hid (clone_any (some ⟨b, 0, none⟩) 24 c w1.heap.size z w1 (by omega) (by omega) hsl)
    clear hsl
    go_wp2_with (go_at_call 32; (with_reducible refine CL.out.mono ?_); rintro e w2 ⟨g, c', rfl, hg, hrow, h1, h2, hgr⟩; have HG := Lib.hid hg; have HR := Lib.hid hrow; have HGR := Lib.hid hgr; clear hg hrow hgr)
    go_ret2
    have hz := HZ.out
    refine ⟨some ⟨g, 0, none⟩, 24, c', rfl, fun h => absurd rfl h, fun _ => ⟨rfl, g, rfl, by rw [← hz]; exact HG.out, by rw [HCU.out]; exact HR.out⟩, ?_, HK.out.then HGR.out (fun _ _ x => x.elim)⟩
    have := HD.out.newer HGR.out
    rwa [hz] at this
  | some z' =>
    obtain ⟨b, c, rfl, h24, hm, hsl⟩ := Img.sl (show Img _ _ _ z' from hwk)
    clear hwk hdk
    have CL := Lib.hid (clone_any (some ⟨b, 0, none⟩) 24 c w1.heap.size z' w1 (by omega) (by omega) hsl)
    clear hsl
    go_wp2_with (go_at_call 32; (with_reducible refine CL.out.mono ?_); rintro e w2 ⟨g, c', rfl, hg, hrow, h1, h2, hgr⟩; have HG := Lib.hid hg; have HR := Lib.hid hrow; have HGR := Lib.hid hgr; clear hg hrow hgr)
    go_ret2
    have hz := HZ.out
    refine ⟨some ⟨g, 0, none⟩, 24, c', rfl, fun h => absurd rfl h, fun _ => ⟨rfl, g, rfl, by rw [← hz]; exact HG.out, by rw [HCU.out]; exact HR.out⟩, ?_, HK.out.then HGR.out (fun _ _ x => x.elim)⟩
    have := HD.out.newer HGR.out
    rwa [hz] at this
end
end Go.Proofs.Ytfjcbcpfhjaeeaa.DevC
