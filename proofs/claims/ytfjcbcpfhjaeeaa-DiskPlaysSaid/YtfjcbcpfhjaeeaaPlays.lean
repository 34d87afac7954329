/-
  The helpers of the statement on a device's play: texts and numbers that are alike are told so; both devices side by side ('Two').
-/
import Derived.Test.YtfjcbcpfhjaeeaaRefNew
import Derived.Test.YtfjcbcpfhjaeeaaOps
namespace Go.Proofs.Ytfjcbcpfhjaeeaa.Plays
open Go.ChangeShapes Go.WideShapes Go.ChangeAt Go.RowKit
open Go.Proofs.Ytfjcbcpfhjaeeaa.SumM Go.Proofs.Ytfjcbcpfhjaeeaa.Mem Go.Proofs.Ytfjcbcpfhjaeeaa.Blk Go.Proofs.Ytfjcbcpfhjaeeaa.PageM Go.Proofs.Ytfjcbcpfhjaeeaa.Str Go.Proofs.Ytfjcbcpfhjaeeaa.Dev Go.Proofs.Ytfjcbcpfhjaeeaa.LibC Go.Proofs.Ytfjcbcpfhjaeeaa.DevC Go.Proofs.Ytfjcbcpfhjaeeaa.DevM Go.Proofs.Ytfjcbcpfhjaeeaa.DevY Go.Proofs.Ytfjcbcpfhjaeeaa.DevK Go.Proofs.Ytfjcbcpfhjaeeaa.DevX Go.Proofs.Ytfjcbcpfhjaeeaa.DevN Go.Proofs.Ytfjcbcpfhjaeeaa.Told3 Go.Proofs.Ytfjcbcpfhjaeeaa.DevS Go.Proofs.Ytfjcbcpfhjaeeaa.RefD Go.Proofs.Ytfjcbcpfhjaeeaa.RefM Go.Proofs.Ytfjcbcpfhjaeeaa.RefY Go.Proofs.Ytfjcbcpfhjaeeaa.RefX Go.Proofs.Ytfjcbcpfhjaeeaa.RefN Go.Proofs.Ytfjcbcpfhjaeeaa.Stages

set_option maxHeartbeats 1000000 in
theorem texts_true {w : World} (g A n c c' : Nat) (f : Nat → Value) (z : Nat → List Int) (hn : n ≤ 48) (h : Row w g n f) (hf : ∀ p, p < n → Fr g w (f p) (z p)) (hA : Row w A n fun p => strV (z p)) :
    Calls Try.prog 22 #[.slice (some ⟨g, 0, none⟩) n c, .slice (some ⟨A, 0, none⟩) n c'] w fun e w' => e = .returned (.bool true) ∧ Grow w w' := by
  have H := Lib.hid h
  have HF := Lib.hid hf
  have HA := Lib.hid hA
  have hnz : (n : Int) ≤ 48 := by omega
  clear h hf hA
  go_enter Try.func22, Try.ntmps22
  go_wp2
  go_loopg [5] n (fun gx i wr => ∃ j : Nat, j + gx = n ∧ i = .int .i64 (j : Int) ∧ Grow w wr)
  case atStart => exact ⟨0, by omega, rfl, Kept.refl _ _⟩
  case round =>
    obtain ⟨j, hg, rfl, hgr⟩ := hrel
    have HGR := Lib.hid hgr
    have HG := Lib.hid hg
    clear hg hgr
    by_cases hj : j < n
    · have hjz : (j : Int) < (n : Int) := by omega
      have r1 := (H.out.grow HGR.out).cell (i := j) hj
      have r2 := (HA.out.grow HGR.out).cell (i := j) hj
      obtain ⟨b, cb, hb, _, _, _, hrow, hl, _⟩ := HF.out j hj
      rw [hb] at r1
      simp only [strV] at r2
      have q1 := up_cell (F := fun _ => False) (w := wr.drew) r1 id
      have q2 := up_cell (F := fun _ => False) (w := wr.drew) r2 id
      have q3 := up_run (F := fun _ => False) (P := Try.prog) (w := wr.drew) fun w' hk => (Sl.of_row0 (B := w'.heap.size) (hrow.grow (HGR.out.trans ((Kept.drew' wr).trans hk))) hl (hrow.grow (HGR.out.trans ((Kept.drew' wr).trans hk))).lt).str 28 9 5 Try.underlying28 Try.underlying5 Try.underlying9 cb
      have HNX : Hid (Grow w wr.drew) := HGR.out.drew
      clear hb hrow hl r1 r2
      go_upto_region 6 with (fail)
      refine wp_region_stages Grow (kept_refl _) (kept_trans _) [] [0, 1, 2, 3, 4, 5, 6, 7, 8, 9] (by kernel_rfl) (by kernel_rfl) ?_
      simp only [selSt, sel, List.map_cons, List.map_nil, List.getD_cons_succ, List.getD_cons_zero]
      refine st_nil fun K2 hK2 => ?_
      repeat (go_big_quiet_step (fail))
      refine wpQuiet_nil (hK2 _ ?_)
      clear hK2 K2 q1 q2 q3
      go_wp2
      go_roundg (n - (j + 1))
      case measure => have := HG.out; omega
      case rel => exact ⟨j + 1, by omega, by go_num, HNX.out⟩
    · have hjN : j = n := by have := HG.out; omega
      subst hjN
      go_wp2
      go_ret
      exact ⟨rfl, HGR.out⟩

set_option maxHeartbeats 1000000 in
theorem ints_true {w : World} (A A' : Option Addr) (n c c' B B' : Nat) (zs : List Int) (hn : n ≤ 48) (h : Sl w B .i64 A n zs) (h' : Sl w B' .i64 A' n zs) :
    Calls Try.prog 24 #[.slice A n c, .slice A' n c'] w fun e w' => e = .returned (.bool true) ∧ Grow w w' := by
  have H := Lib.hid h
  have H' := Lib.hid h'
  have hnz : (n : Int) ≤ 48 := by omega
  clear h h'
  go_enter Try.func24, Try.ntmps24
  go_wp2
  go_loopg [5] n (fun gx i wr => ∃ j : Nat, j + gx = n ∧ i = .int .i64 (j : Int) ∧ Grow w wr)
  case atStart => exact ⟨0, by omega, rfl, Kept.refl _ _⟩
  case round =>
    obtain ⟨j, hg, rfl, hgr⟩ := hrel
    have HG := Lib.hid hg
    have HGR := Lib.hid hgr
    clear hg hgr
    by_cases hj : j < n
    · have hjz : (j : Int) < (n : Int) := by omega
      obtain ⟨b, o, rfl, _, hc⟩ := H.out.at_ (by omega)
      obtain ⟨b', o', rfl, _, hc'⟩ := H'.out.at_ (by omega)
      have r1 := hc j hj
      have r2 := hc' j hj
      generalize zs.getD j 0 = v at *
      have r1' := HGR.out.cellN r1 id
      have r2' := HGR.out.cellN r2 id
      have q1 := up_cell (F := fun _ => False) (w := wr.drew) r1' id
      have q2 := up_cell (F := fun _ => False) (w := wr.drew) r2' id
      clear hc hc' r1 r2 r1' r2'
      go_upto_region 6 with (fail)
      refine wp_region_stages Grow (kept_refl _) (kept_trans _) [] [0, 1, 2, 3, 4, 5, 6, 7, 8] (by kernel_rfl) (by kernel_rfl) ?_
      simp only [selSt, sel, List.map_cons, List.map_nil, List.getD_cons_succ, List.getD_cons_zero]
      refine st_nil fun K2 hK2 => ?_
      repeat (go_big_quiet_step (fail))
      refine wpQuiet_nil (hK2 _ ?_)
      clear hK2 K2 q1 q2
      go_wp2
      go_roundg (n - (j + 1))
      case measure => have := HG.out; omega
      case rel => exact ⟨j + 1, by omega, by go_num, HGR.out.drew⟩
    · have hjN : j = n := by have := HG.out; omega
      subst hjN
      go_wp2
      go_ret
      exact ⟨rfl, HGR.out⟩

/-! ### Each call of the device, whatever is asked -/
section
variable {w : World} {d D W : Nat} {G : Nat → Prop} {S : Dv}
/-- What Read tells, whatever is asked. -/
def ReadAny (d D W : Nat) (G : Nat → Prop) (w : World) (c : Int) (zs : List Int) (S' : Dv) (e : Ending) (w' : World) : Prop :=
  ∃ A n cap, e = .returned (.tuple #[.slice A n cap, .int .i64 c]) ∧ Sl w' w'.heap.size .u8 A n zs ∧ (∀ x, A = some x → w.heap.size ≤ x.block) ∧ DevAt w' d D W G S' ∧ Kept (Own d D W) w w'
theorem dread_any (h : DevAt w d D W G S) (p : Int) (hlo : -9223372036854775808 ≤ p) (hhi : p < 9223372036854775808) (hn : (S.n : Int) < 9223372036854775807) (hb : (S.bad : Int) < 9223372036854775807) :
    Calls Try.prog 11 #[.pointer (some ⟨d, 0, none⟩), .int .i64 p] w (ReadAny d D W G w (readC S p) (readB S p) (readS S p)) := by
  by_cases hc : readC S p = 0
  · have hh : hasI S p = true := by
      cases hh : hasI S p with
      | true => rfl
      | false => exfalso; unfold readC at hc; rw [hh, if_neg (by decide)] at hc; exact absurd hc (by decide)
    have ha : accC S = 0 := by unfold readC at hc; rw [hh] at hc; exact hc
    have hp0 : 0 ≤ p := by unfold hasI at hh; simp at hh; omega
    obtain ⟨k, rfl⟩ := Int.eq_ofNat_of_zero_le hp0
    have hk := hasI_nat hh
    have hrb : readB S (k : Int) = cur S k := by unfold readB; rw [if_pos hc]; rfl
    have hrs : readS S (k : Int) = accS S := by unfold readS; rw [hh]; rfl
    rw [hrb, hrs, hc]
    refine (read_good h k hk hn hb ha).mono ?_
    rintro e w' ⟨A, n, c, rfl, _, hz, hd, hk'⟩
    obtain ⟨rfl, g, rfl, hg, hrow⟩ := hz rfl
    exact ⟨_, _, _, rfl, Sl.of_row0 hrow (h.curOk hk).1 hrow.lt, fun x e => by injection e with e; subst e; exact hg, back hd (fun k x => h.own k x), hk'⟩
  · have hrb : readB S p = [] := by unfold readB; rw [if_neg hc]
    rw [hrb]
    refine (read_bad h p hlo hhi hn hb hc).mono ?_
    rintro e w' ⟨rfl, hd, hk, _⟩
    exact ⟨_, _, _, rfl, Sl.nil _ _ _ _, fun x e => (by cases e), hd, hk⟩
theorem dwrite_any (h : DevAt w d D W G S) (p : Int) (A : Option Addr) (n cap B : Nat) (zs : List Int) (hlo : -9223372036854775808 ≤ p) (hhi : p < 9223372036854775808) (hm : n ≤ maxLen) (hs : ∀ w', Kept (Own d D W) w w' → Sl w' B .u8 A n zs) (hz : Bytes zs) (low : ∀ x, G x → x < w.heap.size)
    (hn : (S.n : Int) < 9223372036854775807) (hb : (S.bad : Int) < 9223372036854775807) :
    Calls Try.prog 13 #[.pointer (some ⟨d, 0, none⟩), .int .i64 p, .slice A n cap] w (DevPost d D W G w (.int .i64 (writeC S p n)) (writeS S p zs)) := by
  have hl := (hs w (Kept.refl _ _)).len
  by_cases hc : writeC S p n = 0
  · have hh : hasI S p = true ∧ n = 24 := by
      unfold writeC at hc
      cases hh : hasI S p with
      | false => rw [hh, Bool.false_and, if_neg (by decide)] at hc; exact absurd hc (by decide)
      | true =>
        rw [hh] at hc
        by_cases e : n = 24
        · exact ⟨rfl, e⟩
        · rw [show (n == 24) = false by simpa using e, Bool.and_false, if_neg (by decide)] at hc; exact absurd hc (by decide)
    obtain ⟨hh, rfl⟩ := hh
    have ha : accC S = 0 := by unfold writeC at hc; rw [hh] at hc; exact hc
    have hp0 : 0 ≤ p := by unfold hasI at hh; simp at hh; omega
    obtain ⟨k, rfl⟩ := Int.eq_ofNat_of_zero_le hp0
    have hk := hasI_nat hh
    have hws : writeS S (k : Int) zs = putS (accS S) k zs := by
      unfold writeS; rw [hh, hl]
      show (if accC S = 0 then putS (accS S) k zs else accS S) = _
      rw [if_pos ha]
    rw [hc, hws]
    exact write_good h k hk A cap B zs hs hz low hn hb ha
  · have hws : writeS S p zs = badS S p n := by
      unfold writeS badS
      rw [hl]
      unfold writeC at hc
      split
      · rename_i hx
        rw [hx] at hc
        have hc' : accC S ≠ 0 := hc
        rw [if_neg hc']
      · rfl
    rw [hws]
    exact write_bad h p A n cap hlo hhi hm hn hb hc
theorem dsync_any (h : DevAt w d D W G S) (hn : (S.n : Int) < 9223372036854775807) (hb : (S.bad : Int) < 9223372036854775807) :
    Calls Try.prog 16 #[.pointer (some ⟨d, 0, none⟩)] w (DevPost d D W G w (.int .i64 (accC S)) (syncS S)) := by
  by_cases hc : accC S = 0
  · have hs : syncS S = flushS (accS S) := by unfold syncS; rw [if_pos hc]
    rw [hs]
    have := sync_good h hn hb hc
    rw [hc]
    exact this
  · have hs : syncS S = accS S := by unfold syncS; rw [if_neg hc]
    rw [hs]
    exact sync_bad h hn hb hc
theorem dcrash_any (h : DevAt w d D W G S) (A : Option Addr) (n cap B : Nat) (bs : List Int) (hs : ∀ w', Kept (Own d D W) w w' → Sl w' B .u8 A n bs) (hz : Bytes bs) (hm : n ≤ maxLen) (low : ∀ x, G x → x < w.heap.size) :
    Calls Try.prog 20 #[.pointer (some ⟨d, 0, none⟩), .slice A n cap] w (DevPost d D W G w (.bool (!S.down)) (crashS S bs)) := by
  cases hd : S.down with
  | true =>
    refine (crash_down h A n cap hd).mono ?_
    rintro e w' ⟨rfl, rfl⟩
    refine ⟨rfl, ?_, Kept.refl _ _⟩
    have : crashS S bs = S := by unfold crashS; rw [hd]; rfl
    rw [this]; exact h
  | false => exact crash_good h A n cap B bs hd hs hz hm low
end
theorem rcrash_any {w : World} {r : Rf} {S : Dv} (h : RefAt w r S) (A : Option Addr) (n cap B : Nat) (bs : List Int) (hs : ∀ w', Kept (POwn r) w w' → Sl w' B .u8 A n bs) (hz : Bytes bs) (hm : n ≤ maxLen) :
    Calls Try.prog 21 #[.pointer (some ⟨r.m, 0, none⟩), .slice A n cap] w (RefPost r w (.bool (!S.down)) (crashS S bs)) := by
  cases hd : S.down with
  | true =>
    refine (rcrash_down h A n cap hd).mono ?_
    rintro e w' ⟨rfl, rfl⟩
    refine ⟨rfl, ?_, Kept.refl _ _⟩
    have : crashS S bs = S := by unfold crashS; rw [hd]; rfl
    rw [this]; exact h
  | false => exact rcrash_good h A n cap B bs hd hs hz hm

/-! ### Both, side by side -/
/-- The device at one state, the document's at another (between the two calls of a step). -/
structure Two (w1 : World) (d D W : Nat) (G : Nat → Prop) (r : Rf) (Sd Sr : Dv) (w : World) : Prop where
  hd : DevAt w d D W G Sd
  hr : RefAt w r Sr
  hk : Kept (fun k => Own d D W k ∨ POwn r k) w1 w
section
variable {w1 w w' : World} {d D W : Nat} {G : Nat → Prop} {r : Rf} {Sd Sr S' : Dv}
theorem Two.grow (h : Two w1 d D W G r Sd Sr w) (hg : Grow w w') : Two w1 d D W G r Sd Sr w' := ⟨h.hd.grow hg, h.hr.grow hg, h.hk.then hg (fun _ _ x => x.elim)⟩
theorem Two.dev (h : Two w1 d D W G r Sd Sr w) (hd : DevAt w' d D W G S') (hk : Kept (Own d D W) w w') (ap : ∀ k, POwn r k → ¬ Own d D W k) : Two w1 d D W G r S' Sr w' := ⟨hd, h.hr.kept hk ap, h.hk.then hk (fun _ _ x => .inl x)⟩
theorem Two.ref (h : Two w1 d D W G r Sd Sr w) (hr : RefAt w' r S') (hk : Kept (POwn r) w w') (ap : ∀ k, POwn r k → ¬ Own d D W k) (hG : ∀ k, POwn r k → G k) : Two w1 d D W G r Sd S' w' := ⟨h.hd.kept hk hG (fun k x y => ap k y x), hr, h.hk.then hk (fun _ _ x => .inr x)⟩
end
/-- The bounds of a state behind so many steps. -/
def Bnd (S : Dv) (i : Nat) : Prop := S.n ≤ i ∧ S.bad ≤ 1000000
theorem Bnd.acc {S : Dv} {i : Nat} (h : Bnd S i) : Bnd (accS S) (i + 1) := by
  obtain ⟨h1, h2⟩ := h
  unfold accS
  split
  · exact ⟨by omega, h2⟩
  · exact ⟨by show S.n + 1 ≤ i + 1; omega, by show S.bad - 1 ≤ 1000000; omega⟩
theorem Bnd.succ {S : Dv} {i : Nat} (h : Bnd S i) : Bnd S (i + 1) := ⟨by have := h.1; omega, h.2⟩
theorem Bnd.read {S : Dv} {i : Nat} (h : Bnd S i) (p : Int) : Bnd (readS S p) (i + 1) := by
  unfold readS; split
  · exact h.acc
  · exact h.succ
theorem Bnd.write {S : Dv} {i : Nat} (h : Bnd S i) (p : Int) (zs : List Int) : Bnd (writeS S p zs) (i + 1) := by
  unfold writeS; split
  · split
    · exact h.acc
    · exact h.acc
  · exact h.succ
theorem Bnd.sync {S : Dv} {i : Nat} (h : Bnd S i) : Bnd (syncS S) (i + 1) := by
  unfold syncS; split
  · exact h.acc
  · exact h.acc
theorem Bnd.fail {S : Dv} {i : Nat} (h : Bnd S i) (m : Int) : Bnd (failS S m) (i + 1) := by
  unfold failS; split
  · rename_i hb
    refine ⟨by have := h.1; show S.n ≤ i + 1; omega, ?_⟩
    unfold failB at hb
    simp at hb
    show m.toNat ≤ 1000000
    omega
  · exact h.succ
theorem Bnd.crash {S : Dv} {i : Nat} (h : Bnd S i) (bs : List Int) : Bnd (crashS S bs) (i + 1) := by
  unfold crashS; split
  · exact h.succ
  · exact ⟨by have := h.1; show S.n ≤ i + 1; omega, h.2⟩
#print axioms dcrash_any
end Go.Proofs.Ytfjcbcpfhjaeeaa.Plays
