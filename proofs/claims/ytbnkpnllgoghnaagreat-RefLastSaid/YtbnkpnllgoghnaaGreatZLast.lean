/-
  The statement RefLast, walked.
-/
import Derived.Test.YtbnkpnllgoghnaaGreatQa
import Derived.Test.YtbnkpnllgoghnaaGreatQb
import Derived.Test.YtbnkpnllgoghnaaGreatQc
import Derived.Test.YtbnkpnllgoghnaaGreatQd
import Derived.Test.YtbnkpnllgoghnaaGreatQe
import Derived.Test.YtbnkpnllgoghnaaGreatQf
import Derived.Test.YtbnkpnllgoghnaaGreatQg
import Derived.Test.YtbnkpnllgoghnaaGreatQh
import Derived.Test.YtbnkpnllgoghnaaGreatQi
import Derived.Test.YtbnkpnllgoghnaaGreatQj
import Derived.Test.YtbnkpnllgoghnaaGreatQk
import Derived.Test.YtbnkpnllgoghnaaGreatQl
import Derived.Test.YtbnkpnllgoghnaaGreatQm
import Derived.LoopN
namespace Go.Proofs.YtbnkpnllgoghnaaGreat.LwLast
open Go.ChangeShapes Go.WideShapes Go.ChangeAt Go.RowKit
open Go.Proofs.YtbnkpnllgoghnaaGreat.Mem Go.Proofs.YtbnkpnllgoghnaaGreat.Blk Go.Proofs.YtbnkpnllgoghnaaGreat.Cells Go.Proofs.YtbnkpnllgoghnaaGreat.Orow Go.Proofs.YtbnkpnllgoghnaaGreat.MdM Go.Proofs.YtbnkpnllgoghnaaGreat.RfP Go.Proofs.YtbnkpnllgoghnaaGreat.RgS Go.Proofs.YtbnkpnllgoghnaaGreat.RgV Go.Proofs.YtbnkpnllgoghnaaGreat.RgQ Go.Proofs.YtbnkpnllgoghnaaGreat.RgN Go.Proofs.YtbnkpnllgoghnaaGreat.Calls13 Go.Proofs.YtbnkpnllgoghnaaGreat.Told16 Go.Proofs.YtbnkpnllgoghnaaGreat.Stages Go.Proofs.YtbnkpnllgoghnaaGreat.Trees
open Go.Proofs.YtbnkpnllgoghnaaGreat.RfM (Pl)
open Go.Proofs.YtbnkpnllgoghnaaGreat.RfO (Seq Late)
section
variable {H : Type} {enc : TypeId × Value → H} {w : World} {base : Nat} {spare : Nat → Bool} {held : Bool}
def IntsAt (w : World) (A : Option Addr) (len _cap : Nat) : Prop := ∃ d, Sl w w.heap.size .i64 A len d
theorem use_open {A : Option Addr} {len cap fuel : Nat} {x : DataW H × List MemPlace} (h : DataW.trod enc Tryz.prog w base spare held fuel 33 [.slice A len cap] = some x) : IntsAt w A len cap := Args13.ints_open h
end
section
variable {la : List Int}
theorem getD_set_ne {p x : Nat} {v : Int} (h : x ≠ p) : (la.set p v).getD x 0 = la.getD x 0 := by
  rw [List.getD_eq_getElem?_getD, List.getD_eq_getElem?_getD, List.getElem?_set_ne (by omega)]
theorem getD_set_eq {p : Nat} {v : Int} (h : p < la.length) : (la.set p v).getD p 0 = v := by
  rw [List.getD_eq_getElem?_getD, List.getElem?_set_self h]; rfl
end
theorem infoI : (Tryz.prog.info? 3).map (fun i => (i.zero, i.size, i.bytes)) = some (some (.int .i64 0), 1, 8) := by kernel_rfl
theorem madeI (w : World) (n : Nat) (hn : n ≤ 1024) : (Instr.makeSlice 33 (.int .i64 (n : Int)) (.int .i64 (n : Int))).run Tryz.prog w = .ok (.slice (some ⟨w.heap.size, 0, none⟩) n n) (w.alloc (.cells (madeCells #[.int .i64 0] n) 3)) := by
  obtain ⟨i, hi, hz, hs, hb⟩ := info_parts infoI
  have := run_make (P := Tryz.prog) w 33 3 i _ Tryz.underlying33 hi hz .i64 .i64 (n : Int) (n : Int) (by omega) (Int.le_refl _) (by rw [hb]; omega) (by omega)
  rw [hs, Int.toNat_natCast, Nat.mul_one] at this
  exact this
/-! ### The pool's order, and when each page was used -/
/-- Pages 0 to j - 1 were made, or used again; 'la' says when, all of it before m. -/
structure LS (n j : Nat) (m : Int) (la : List Int) (p : Pl) : Prop where
  s : ∃ L, Seq p 20 n j L ∧ L.length = j ∧ Late (fun x => la.getD x 0) L
  len : la.length = n
  lt : ∀ x, x < j → la.getD x 0 < m
section
variable {n j q : Nat} {m : Int} {la : List Int} {p : Pl}
theorem seq_lt {L : List Nat} (s : Seq p 20 n j L) (hj : j ≤ n) : ∀ x, x ∈ L ↔ x < j := fun x => by
  have h := s.i.mem x
  rw [s.L, s.fn] at h
  refine ⟨fun hx => ?_, fun hx => ?_⟩
  · obtain ⟨h1, h2⟩ := h.1 hx
    rw [s.st h1] at h2
    rcases Nat.lt_or_ge x j with h3 | h3
    · exact h3
    · rw [if_neg (by omega)] at h2; omega
  · refine h.2 ⟨by omega, ?_⟩
    rw [s.st (by omega), if_pos hx]
theorem ls_zero (h1 : 1 ≤ n) (h2 : n ≤ 32) : LS n 0 0 (List.replicate n 0) (RfM.fresh 20 1 n) :=
  ⟨⟨[], RfO.seq_fresh (by decide) (by decide) h1 h2, rfl, List.Pairwise.nil⟩, List.length_replicate .., fun _ h => absurd h (Nat.not_lt_zero _)⟩
theorem late_set {L L' : List Nat} {v : Int} (h : Late (fun x => la.getD x 0) L) (hs : L'.Sublist L) (hq : q ∉ L') (hv : ∀ x ∈ L', la.getD x 0 < v) (hl : q < la.length) : Late (fun x => (la.set q v).getD x 0) (q :: L') := by
  have e : (fun x => (la.set q v).getD x 0) = TabM.upd (fun x => la.getD x 0) q v := by
    funext x
    by_cases ex : x = q
    · subst ex; rw [TabM.upd_same, getD_set_eq hl]
    · rw [TabM.upd_other _ _ ex, getD_set_ne ex]
  rw [e]
  exact h.cons hs hq hv
theorem ls_new (h : LS n j (j : Int) la p) (hj : j < n) (hn : n < 20) : (p.run 0 ⟨1, 0, 0, 0, 0, []⟩).1.c = 0 ∧ ((p.run 0 ⟨1, 0, 0, 0, 0, []⟩).2.run 0 ⟨5, 0, 0, 0, 0, []⟩).1.c = 0 ∧ LS n (j + 1) ((j : Int) + 1) (la.set j (j : Int)) ((p.run 0 ⟨1, 0, 0, 0, 0, []⟩).2.run 0 ⟨5, 0, 0, 0, 0, []⟩).2 := by
  obtain ⟨L, s, hl, ht⟩ := h.s
  have hm := seq_lt s (Nat.le_of_lt hj)
  obtain ⟨h1, h2, h3⟩ := s.step (o := ⟨1, 0, 0, 0, 0, []⟩) (o2 := ⟨5, 0, 0, 0, 0, []⟩) hj hn rfl rfl rfl rfl rfl
  refine ⟨h1, h2, ⟨j :: L, h3, by rw [List.length_cons, hl], late_set ht (List.Sublist.refl _) (fun hx => by have := (hm j).1 hx; omega) (fun x hx => h.lt x ((hm x).1 hx)) (by rw [h.len]; exact hj)⟩, by rw [List.length_set]; exact h.len, fun x hx => ?_⟩
  by_cases ex : x = j
  · subst ex; rw [getD_set_eq (by rw [h.len]; exact hj)]; omega
  · rw [getD_set_ne ex]; have := h.lt x (by omega); omega
theorem ls_use (h : LS n n m la p) (hq : q < n) (hn : n < 20) : (p.run 0 ⟨2, (q : Int), 0, 0, 0, []⟩).1.c = 0 ∧ ((p.run 0 ⟨2, (q : Int), 0, 0, 0, []⟩).2.run 0 ⟨5, 0, 0, 0, 0, []⟩).1.c = 0 ∧ LS n n (m + 1) (la.set q m) ((p.run 0 ⟨2, (q : Int), 0, 0, 0, []⟩).2.run 0 ⟨5, 0, 0, 0, 0, []⟩).2 := by
  obtain ⟨L, s, hl, ht⟩ := h.s
  have hm := seq_lt s (Nat.le_refl n)
  obtain ⟨h1, h2, h3⟩ := s.use (q := q) (o := ⟨2, (q : Int), 0, 0, 0, []⟩) (o2 := ⟨5, 0, 0, 0, 0, []⟩) hq hn rfl rfl rfl rfl rfl rfl
  have hqL := (hm q).2 hq
  have hnd : L.Nodup := by have := s.i.nd; rw [s.L] at this; exact this
  refine ⟨h1, h2, ⟨q :: L.erase q, h3, by rw [List.length_cons, List.length_erase_of_mem hqL, hl]; omega, late_set ht List.erase_sublist (fun hx => ((List.Nodup.mem_erase_iff hnd).1 hx).1 rfl) (fun x hx => h.lt x ((hm x).1 (List.mem_of_mem_erase hx))) (by rw [h.len]; exact hq)⟩, by rw [List.length_set]; exact h.len, fun x hx => ?_⟩
  by_cases ex : x = q
  · subst ex; rw [getD_set_eq (by rw [h.len]; exact hq)]; omega
  · rw [getD_set_ne ex]; have := h.lt x hx; omega
/-- With the least of all: the page that goes; what the order shows then. -/
theorem ls_over {v : Nat} (h : LS n n m la p) (hn : n < 20) (h1 : 1 ≤ n) (hv : v < n) (hmin : ∀ x, x < n → la.getD v 0 ≤ la.getD x 0) :
    (p.run 0 ⟨1, 0, 0, 0, 0, []⟩).1.c = 0 ∧ ∃ zs : List Int, orderL (p.run 0 ⟨1, 0, 0, 0, 0, []⟩).2.A.F (p.run 0 ⟨1, 0, 0, 0, 0, []⟩).2.L = (n : Int) :: zs ∧ zs.length + 1 = n ∧ ∀ z ∈ (n : Int) :: zs, z ≠ (v : Int) := by
  obtain ⟨L, s, hl, ht⟩ := h.s
  have hm := seq_lt s (Nat.le_refl n)
  rcases List.eq_nil_or_concat L with rfl | ⟨L', u, rfl⟩
  · simp at hl; omega
  try rw [List.concat_eq_append] at *
  obtain ⟨e1, e2, e3, e4, e5, e6, e7⟩ := s.over (o := ⟨1, 0, 0, 0, 0, []⟩) hn rfl rfl
  have hu : u = v := by
    have hvm := (hm v).2 hv
    rcases List.mem_append.1 hvm with hv' | hv'
    · have h2 := ht.last v hv'
      have h3 := hmin u e5

      omega
    · exact (List.mem_singleton.1 hv').symm
  subst hu
  refine ⟨e1, L'.map fun x => (((p.run 0 ⟨1, 0, 0, 0, 0, []⟩).2.A.F x).pg), ?_, by rw [List.length_map]; simpa using hl, ?_⟩
  · rw [e4]
    show ((p.run 0 ⟨1, 0, 0, 0, 0, []⟩).2.A.F u).pg :: _ = _
    rw [e6]
  · intro z hz
    rcases List.mem_cons.1 hz with rfl | hz
    · omega
    · obtain ⟨x, hx, rfl⟩ := List.mem_map.1 hz
      obtain ⟨_, h3, h4⟩ := e7 x hx
      rw [h4]
      omega
end
section
variable {w : World} {col : Nat → Nat} {ν : Nm} {p : Pl} {k : Nat} {a1 a2 : Int}
theorem pdo_c0 (x : PAt w col ν p k) (hk : k ≤ 100000) (hc : (p.run 0 ⟨a1, a2, 0, 0, 0, []⟩).1.c = 0) : Calls Tryz.prog 13 #[.pointer (some ⟨ν.r, 0, none⟩), .int .i64 0, .agg #[.int .i64 a1, .int .i64 a2, .int .i64 0, .int .i64 0, .int .i64 0, .slice none 0 0]] w fun e w' => ∃ a b s col', e = .returned (.agg #[.int .i64 0, a, b, s]) ∧ Went w col w' col' ∧ PAt w' col' ν (p.run 0 ⟨a1, a2, 0, 0, 0, []⟩).2 (k + 50) :=
  (pdo0 (c := 0) (a1 := a1) (a2 := a2) (a3 := 0) (a4 := 0) (a5 := 0) x (by decide) hk rfl rfl).mono fun e w' ⟨A, n, cap, col', he, _, _, _, hw, hp⟩ => by
    rw [hc] at he
    exact ⟨_, _, _, col', he, hw, hp⟩
end
def Rel1 (w : World) (ν : Nm) (N n : Nat) (g : Nat) (i : Value) (wx : World) : Prop := ∃ (j : Nat) (p : Pl) (la : List Int) (c : Nat → Nat), j + g = n ∧ i = .int .i64 (j : Int) ∧ LS n j (j : Int) la p ∧ Std w wx c ν p (100 * j) ∧ NBlk wx N 3 .i64 la ∧ Out c N
def Rel2 (w : World) (ν : Nm) (N n M : Nat) (g : Nat) (i : Value) (wx : World) : Prop := ∃ (j : Nat) (p : Pl) (la : List Int) (c : Nat → Nat), j + g = M ∧ i = .int .i64 (j : Int) ∧ LS n n ((n : Int) + (j : Int)) la p ∧ Std w wx c ν p (1000 + 100 * j) ∧ NBlk wx N 3 .i64 la ∧ Out c N
def Rel3 (w0 : World) (zs : List Int) (k : Nat) (g : Nat) (v i : Value) (wx : World) : Prop := ∃ (j x : Nat), j + g = k ∧ i = .int .i64 (j : Int) ∧ v = .int .i64 (x : Int) ∧ x < k ∧ (∀ y, y < j → zs.getD x 0 ≤ zs.getD y 0) ∧ Grow w0 wx
def Rel4 (w0 : World) (k : Nat) (g : Nat) (b i : Value) (wx : World) : Prop := ∃ j : Nat, j + g = k ∧ i = .int .i64 (j : Int) ∧ b = .bool false ∧ w0 = wx
section
variable {w : World} {A : Option Addr} {len cap : Nat} {a : Int}
set_option maxRecDepth 100000 in
set_option maxHeartbeats 8000000 in
theorem last_any (h : IntsAt w A len cap) : Calls Tryz.prog 9 #[.int .i64 a, .slice A len cap] w fun e w' => e = .returned (.bool true) ∧ Below w.heap.size w w' := by
  obtain ⟨ts, hs⟩ := h
  have HS := Lib.hid hs
  obtain ⟨q, hq, hq5⟩ := tmod_nat a 5 (by omega)
  simp only [Int.cast_ofNat_Int] at hq
  obtain ⟨n, hn⟩ : ∃ n : Nat, n = 2 + q := ⟨_, rfl⟩
  have hnz : (2 : Int) + (q : Int) = (n : Int) := by omega
  have hn2 : 2 ≤ n := by omega
  have hn6 : n ≤ 6 := by omega
  have hnz6 : (n : Int) ≤ 6 := by omega
  have hnz2 : (2 : Int) ≤ (n : Int) := by omega
  have hqz : (q : Int) < 5 := by omega
  have CN := Lib.hid (pnew 20 1 n (by decide) (by decide) (by decide) (by decide) (by omega) (by omega) w)
  simp only [Int.cast_ofNat_Int] at CN
  have HI0 := Lib.hid (ls_zero (n := n) (by omega) (by omega))
  have km := fun (w : World) => madeI w n (by omega)
  have hfl := field_res
  clear hn hs
  go_enter Tryz.func9, Tryz.ntmps9
  go_wp2_with (go_at_call 12; (try rw [hnz]); (with_reducible refine CN.out.mono ?_); rintro e u0 ⟨ν, c0, rfl, hp, hg, hz⟩; have HS0 := Lib.hid (new_std hp hg hz); clear hp hg hz)
  clear hq hq5 hqz km CN
  have HNB := Lib.hid (NBlk.made u0 3 .i64 n)
  have HGA : Hid (Grow u0 (u0.alloc (.cells (madeCells #[.int .i64 0] n) 3))) := (Kept.refl _ _).alloc _
  obtain ⟨N, hN⟩ : ∃ N, u0.heap.size = N := ⟨_, rfl⟩
  have HWN : Hid (w.heap.size ≤ N) := by show _ ≤ N; rw [← hN]; exact HS0.out.g.size
  have HS1 := Lib.hid (HS0.out.grow HGA.out)
  have HON : Hid (Out (paint u0.heap.size 0 c0) N) := out_new (c := 0) (by rw [hN]; exact Nat.le_refl _)
  rw [hN] at HNB HS1 HON ⊢
  clear hN
  generalize u0.alloc (.cells (madeCells #[.int .i64 0] n) 3) = u1 at *
  generalize paint N 0 c0 = c1 at *
  clear HS0 HGA
  go_loopg [8] n (Rel1 w ν N n)
  case atStart => exact ⟨0, _, _, _, by omega, rfl, HI0.out, HS1.out, HNB.out, HON.out⟩
  case round =>
    clear HI0 HS1 HNB HON
    obtain ⟨j, p, la, c, hg, rfl, hi, hst, hnb, ho⟩ := hrel
    have HG := Lib.hid hg
    have HII := Lib.hid hi
    have HST := Lib.hid hst
    have HNZ := Lib.hid hnb
    have HO := Lib.hid ho
    clear hg hi hst hnb ho
    by_cases hj : j < n
    · have hjz : (j : Int) < (n : Int) := by omega
      have HJ := Lib.hid hj
      have HM := Lib.hid (ls_new HII.out hj (by omega))
      have HD1 := Lib.hid (pdo_c0 HST.out.x (by omega) HM.out.1)
      clear hj
      go_upto_region 11 with (first
        | (go_at_call 13; (with_reducible refine HD1.out.mono ?_); rintro e w3 ⟨b1, b2, b3, c3, rfl, hw, hp⟩; have HD2 := Lib.hid (pdo_c0 hp (by have := HJ.out; omega) HM.out.2.1); have HS3 := Lib.hid (HST.out.went hw hp); have HW3 := Lib.hid hw; clear hw hp HD1)
        | (go_at_call 13; (with_reducible refine HD2.out.mono ?_); rintro e w4 ⟨d1, d2, d3, c4, rfl, hw, hp⟩; have HS4 := Lib.hid (HS3.out.went hw hp); have HW4 := Lib.hid (HW3.out.trans hw); clear hw hp HD2))
      have HN4 := Lib.hid (RgB.Went.blk HW4.out HNZ.out HO.out)
      have N4 : NBlk w4 N 3 .i64 la := HN4.out.1
      have l4 := N4.at_ (j := j) (by rw [HII.out.len]; exact HJ.out)
      have z4 := Blk.frozen N4 j
      clear N4
      go_wp2
      go_roundg (gk - 1)
      case measure => have := HG.out; have := HJ.out; omega
      case rel =>
        have hk := Cells.kept_set w4 N j (.int .i64 (j : Int))
        refine ⟨j + 1, _, la.set j (j : Int), c4, by have := HG.out; have := HJ.out; omega, by go_num, HM.out.2.2, ?_, NBlk.set HN4.out.1 j _, HN4.out.2⟩
        have := HS4.out.put hk fun i _ e => by rw [e]; exact ⟨HWN.out, HN4.out.2⟩
        rw [show 100 * j + 50 + 50 = 100 * (j + 1) by omega] at this
        exact this
    · obtain rfl : j = n := by have := HG.out; omega
      clear hj
      obtain ⟨M, hM⟩ : ∃ M : Nat, M = min len 40 := ⟨_, rfl⟩
      have HM := Lib.hid hM
      have hM1 : M ≤ len := by omega
      have hM40 : M ≤ 40 := by omega
      clear hM
      go_wp2_with (fail)
      go_loopg [9] M (Rel2 w ν N j M)
      case atStart => exact ⟨0, p, la, c, by omega, rfl, by have := HII.out; rw [show (j : Int) = (j : Int) + ((0 : Nat) : Int) by omega] at this; exact this, ⟨HST.out.x.up (by omega), HST.out.g, HST.out.z⟩, HNZ.out, HO.out⟩
      case round =>
        clear HII HST HNZ HO HG
        obtain ⟨i, p, la, c, hg, rfl, hi, hst, hnb, ho⟩ := hrel
        have HG := Lib.hid hg
        have HII := Lib.hid hi
        have HST := Lib.hid hst
        have HNZ := Lib.hid hnb
        have HO := Lib.hid ho
        clear hg hi hst hnb ho
        by_cases hi : i < M
        · have HI := Lib.hid hi
          have hiz : (i : Int) < (len : Int) := by omega
          have hi40 : (i : Int) < 40 := by omega
          obtain ⟨ob, oo, rfl, hob, hoc⟩ := HS.out.at_ (by omega)
          have r0 := HST.out.g.cellN (hoc i (by omega)) id
          clear hoc
          generalize ts.getD i 0 = x at *
          obtain ⟨q', hpm, hpk⟩ := tmod_nat x j (by omega)
          have hpz : (q' : Int) < (j : Int) := by omega
          have HT := Lib.hid (ls_use HII.out hpk (by omega))
          have HPK := Lib.hid hpk
          have HD1 := Lib.hid (pdo_c0 HST.out.x (by omega) HT.out.1)
          clear hi hpk
          go_upto_region 18 with (first
            | (go_at_call 13; (with_reducible refine HD1.out.mono ?_); rintro e w3 ⟨b1, b2, b3, c3, rfl, hw, hp⟩; have HD2 := Lib.hid (pdo_c0 hp (by have := HI.out; omega) HT.out.2.1); have HS3 := Lib.hid (HST.out.went hw hp); have HW3 := Lib.hid hw; clear hw hp HD1)
            | (go_at_call 13; (with_reducible refine HD2.out.mono ?_); rintro e w4 ⟨d1, d2, d3, c4, rfl, hw, hp⟩; have HS4 := Lib.hid (HS3.out.went hw hp); have HW4 := Lib.hid (HW3.out.trans hw); clear hw hp HD2))
          have HN4 := Lib.hid (RgB.Went.blk HW4.out HNZ.out HO.out)
          have N4 : NBlk w4 N 3 .i64 la := HN4.out.1
          have l4 := N4.at_ (j := q') (by rw [HII.out.len]; exact HPK.out)
          have z4 := Blk.frozen N4 q'
          clear N4
          go_wp2
          go_roundg (gk - 1)
          case measure => have := HG.out; have := HI.out; omega
          case rel =>
            have hk := Cells.kept_set w4 N q' (.int .i64 ((j : Int) + (i : Int)))
            refine ⟨i + 1, _, la.set q' ((j : Int) + (i : Int)), c4, by have := HG.out; have := HI.out; omega, by go_num, by have := HT.out.2.2; rw [show (j : Int) + (i : Int) + 1 = (j : Int) + ((i + 1 : Nat) : Int) by omega] at this; exact this, ?_, NBlk.set HN4.out.1 q' _, HN4.out.2⟩
            have := HS4.out.put hk fun i _ e => by rw [e]; exact ⟨HWN.out, HN4.out.2⟩
            rw [show 1000 + 100 * i + 50 + 50 = 1000 + 100 * (i + 1) by omega] at this
            exact this
        · obtain rfl : i = M := by have := HG.out; omega
          have hend : (len : Int) ≤ (i : Int) ∨ ((i : Int) < (len : Int) ∧ (40 : Int) ≤ (i : Int)) := by have := HM.out; omega
          obtain ⟨W0, hW0⟩ : ∃ W0, W0 = wr := ⟨_, rfl⟩
          have HW0 := Lib.hid hW0
          rw [← hW0] at HST HNZ
          have HLEN := Lib.hid HII.out.len
          clear hi hW0
          rcases hend with h | ⟨h, h'⟩
          all_goals
            go_wp2_with (fail)
            go_loopg [11, 12] j (Rel3 W0 la j)
            case atStart => exact ⟨0, 0, by omega, rfl, rfl, by omega, fun y hy => by omega, by rw [HW0.out]; exact Kept.refl _ _⟩
            case round =>
              obtain ⟨y, x, hg, rfl, rfl, hx, hmin, hgr⟩ := hrel
              have HG3 := Lib.hid hg
              have HX := Lib.hid hx
              have HMIN := Lib.hid hmin
              have HGR3 := Lib.hid hgr
              have N3 : Hid (NBlk wr N 3 .i64 la) := Blk.grow HNZ.out hgr
              clear hg hmin hgr
              by_cases hy : y < j
              · have hyz : (y : Int) < (j : Int) := by omega
                have hxz : (x : Int) < (j : Int) := by omega
                have HY := Lib.hid hy
                have ly := N3.out.at_ (j := y) (by rw [HLEN.out]; exact hy)
                have lx := N3.out.at_ (j := x) (by rw [HLEN.out]; exact hx)
                clear hy hx
                obtain ⟨vy, hvy⟩ : ∃ vy, vy = la.getD y 0 := ⟨_, rfl⟩
                obtain ⟨vx, hvx⟩ : ∃ vx, vx = la.getD x 0 := ⟨_, rfl⟩
                rw [← hvy] at ly
                rw [← hvx] at lx
                have HVY := Lib.hid hvy
                have HVX := Lib.hid hvx
                clear hvy hvx
                go_upto_region 23 with (fail)
                have q0 := up_cell (F := fun _ => False) (w := wr.drew) (p := ⟨N, y, none⟩) ly id
                have q1 := up_cell (F := fun _ => False) (w := wr.drew) (p := ⟨N, x, none⟩) lx id
                refine wp_region_stages (Kept fun _ => False) (kept_refl _) (kept_trans _) [] [0, 1, 2, 3, 4, 5, 6, 7, 8] (by kernel_rfl) (by kernel_rfl) ?_
                simp only [selSt, sel, List.map_cons, List.map_nil, List.getD_cons_succ, List.getD_cons_zero]
                refine st_nil fun K4 hK4 => ?_
                repeat (go_big_quiet_step (fail))
                refine wpQuiet_nil (hK4 _ ?_)
                clear hK4 K4 q0 q1
                by_cases hlt : vy < vx
                · have HLT := Lib.hid hlt
                  go_wp2
                  go_roundg (gk - 1)
                  case measure => have := HG3.out; have := HY.out; omega
                  case rel =>
                    refine ⟨y + 1, y, by have := HG3.out; have := HY.out; omega, by go_num, rfl, HY.out, fun z hz => ?_, HGR3.out.drew⟩
                    have h1 := HVY.out
                    have h2 := HVX.out
                    have h3 := HLT.out
                    by_cases ez : z = y
                    · subst ez; omega
                    · have := HMIN.out z (by omega); omega
                · have HLT := Lib.hid hlt
                  go_wp2
                  go_roundg (gk - 1)
                  case measure => have := HG3.out; have := HY.out; omega
                  case rel =>
                    refine ⟨y + 1, x, by have := HG3.out; have := HY.out; omega, by go_num, rfl, HX.out, fun z hz => ?_, HGR3.out.drew⟩
                    have h1 := HVY.out
                    have h2 := HVX.out
                    have h3 := HLT.out
                    by_cases ez : z = y
                    · subst ez; omega
                    · have := HMIN.out z (by omega); omega
              · obtain rfl : y = j := by have := HG3.out; omega
                obtain ⟨hc0, zs, hzo, hzl, hzn⟩ := ls_over HII.out (by omega) (by omega) hx HMIN.out
                have HZO := Lib.hid hzo
                have HZL := Lib.hid hzl
                have HZN := Lib.hid hzn
                have HST3 := Lib.hid (HST.out.grow HGR3.out)
                have HD1 := Lib.hid (pdo_c0 HST3.out.x (by omega) hc0)
                have CO : Hid (∀ w5 c5 k5, PAt w5 c5 ν (p.run 0 ⟨1, 0, 0, 0, 0, []⟩).2 k5 → Calls Tryz.prog 33 #[.pointer (some ⟨ν.r, 0, none⟩)] w5 fun e w' => ∃ g c, e = .returned (.slice (some ⟨g, 0, none⟩) y c) ∧ (∀ j, j < y → w'.cell? ⟨g, j, none⟩ = some (.int .i64 (((y : Int) :: zs).getD j 0))) ∧ Grow w5 w') := fun w5 c5 k5 h => by
                  have h := porder h
                  rw [hzo] at h
                  have hl : ((y : Int) :: zs).length = y := by rw [List.length_cons]; exact hzl
                  refine (ints_are h (by simp)).mono fun e w' ⟨g, c, he, _, _, h3, _, hg⟩ => ?_
                  rw [hl] at he h3
                  exact ⟨g, c, he, h3, hg⟩
                clear hy hx hc0 hzo hzl hzn
                go_upto_region 28 with (first
                  | (go_at_call 13; (with_reducible refine HD1.out.mono ?_); rintro e w5 ⟨b1, b2, b3, c5, rfl, hw, hp⟩; have HS5 := Lib.hid (HST3.out.went hw hp); clear hw hp HD1)
                  | (go_at_call 33; (with_reducible refine (CO.out _ _ _ HS5.out.x).mono ?_); rintro e w6 ⟨go, co, rfl, t3, hg⟩; have HG6 := Lib.hid (HS5.out.g.trans hg); have HT3 := Lib.hid t3; clear t3 hg))
                clear HMIN HGR3 N3 HII HST3 HST HNZ HS5 CO
                go_wp2_with (fail)
                go_loopg [14, 15] y (Rel4 w6 y)
                case atStart => exact ⟨0, by omega, rfl, rfl, rfl⟩
                case round =>
                  obtain ⟨j, hg, rfl, rfl, rfl⟩ := hrel
                  have HGG := Lib.hid hg
                  clear hg
                  by_cases hj : j < y
                  · have hjz : (j : Int) < (y : Int) := by omega
                    have HJ := Lib.hid hj
                    have t0 := HT3.out j hj
                    obtain ⟨z, hz⟩ : ∃ z, z = ((y : Int) :: zs).getD j 0 := ⟨_, rfl⟩
                    have hzx : z ≠ (x : Int) := HZN.out z (by
                      rw [hz, List.getD_eq_getElem?_getD, List.getElem?_eq_getElem (by rw [List.length_cons, HZL.out]; exact hj)]
                      exact List.getElem_mem _)
                    rw [← hz] at t0
                    have HZX := Lib.hid hzx
                    clear hz hj
                    go_wp2
                    go_roundg (gk - 1)
                    case measure => have := HGG.out; have := HJ.out; omega
                    case rel => exact ⟨j + 1, by have := HGG.out; have := HJ.out; omega, by go_num, by rw [beq_eq_false_iff_ne.2 HZX.out], rfl⟩
                  · obtain rfl : j = y := by have := HGG.out; omega
                    have t0 := HT3.out 0 (by omega)
                    rw [List.getD_cons_zero] at t0
                    have HT0 := Lib.hid t0
                    clear hj t0
                    go_wp2_with (go_at_call 11; (with_reducible refine (told_any _).mono ?_); rintro e wt ⟨rfl, hge⟩; have HGE := Lib.hid hge; have t1 := hge.cellN HT0.out id; clear hge)
                    go_ret
                    exact ⟨rfl, Grow.below (HG6.out.trans HGE.out)⟩
end
end Go.Proofs.YtbnkpnllgoghnaaGreat.LwLast
