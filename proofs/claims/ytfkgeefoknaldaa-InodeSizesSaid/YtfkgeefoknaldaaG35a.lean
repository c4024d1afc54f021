/- Stage 20: the program's table alone: each call, told by the plain table; the statements' wakes. Conditions: numbers of 64 bits. Stage 20: what the statements' own Own and Copied return: the same inodes in memory of their own. Conditions: the inodes lie where the call was told. -/
import Derived.Test.YtfkgeefoknaldaaG27a
import Derived.Test.YtfkgeefoknaldaaG29a
import Derived.Test.YtfkgeefoknaldaaG31a
import Derived.Test.YtfkgeefoknaldaaG34a
import Derived.Test.YtfkgeefoknaldaaG24a
set_option linter.unusedVariables false
namespace Go.Proofs.Ytfkgeefoknaldaa
open Go.RowKit Go.Maps
set_option linter.unusedVariables false
set_option maxRecDepth 20000
section
variable {b : Nat} {X : Nat → Prop} {w : World} {t : Tb}
theorem ps_new (w : World) : Calls Try.prog 6 #[] w fun e w' => ∃ b, e = .returned (.pointer (some ⟨b, 0, none⟩)) ∧ Solo (PT b) (fun k => k < w.heap.size) w' newT ∧ Below w.heap.size w w' ∧ w.heap.size ≤ b := by
  refine (pnew_any w).mono ?_
  rintro e w' ⟨b, G, rfl, hp, hG, hb⟩
  obtain ⟨m, l, h1, h2, z⟩ := id hp
  exact ⟨b, rfl, Solo.of hp (fun k hk hg => by have := hG k hg; omega) (fun k hk => Nat.lt_of_lt_of_le hk hb.size), hb, hG b z.1⟩
theorem ps_make (hs : Solo (PT b) X w t) (ht : TbI t) (hnx : t.next ≤ 9000000000000000000) (k : Int) : Calls Try.prog 10 #[.pointer (some ⟨b, 0, none⟩), .int .i64 k] w fun e w' => e = .returned (.tuple #[.int .i64 (makeI t k).2.1, .int .i64 (makeI t k).2.2]) ∧ Solo (PT b) X w' (makeI t k).1 ∧ Kept X w w' :=
  solo_call (R := fun e => e = .returned (.tuple #[.int .i64 (makeI t k).2.1, .int .i64 (makeI t k).2.2])) (pt_thing b) hs (fun F hF => pmake_any hF ht hnx)
theorem ps_link (hs : Solo (PT b) X w t) (ht : TbI t) (hnx : t.next ≤ 9000000000000000000) {n : Int} (hn : (Lit.int .i64 n).wf = true) (k : Int) : Calls Try.prog 11 #[.pointer (some ⟨b, 0, none⟩), .int .i64 n, .int .i64 k] w fun e w' => e = .returned (.int .i64 (linkI t n k).2) ∧ Solo (PT b) X w' (linkI t n k).1 ∧ Kept X w w' :=
  solo_call (R := fun e => e = .returned (.int .i64 (linkI t n k).2)) (pt_thing b) hs (fun F hF => plink_any hF ht hnx hn)
theorem ps_write (hs : Solo (PT b) X w t) (ht : TbI t) {n : Int} (hn : (Lit.int .i64 n).wf = true) {off : Int} (ho : -9223372036854775808 ≤ off ∧ off ≤ 9223372036854775807) (k ad : Int) : Calls Try.prog 25 #[.pointer (some ⟨b, 0, none⟩), .int .i64 n, .int .i64 off, .int .i64 k, .int .i64 ad] w fun e w' => e = .returned (.int .i64 (writeI t n off k ad).2) ∧ Solo (PT b) X w' (writeI t n off k ad).1 ∧ Kept X w w' :=
  solo_call (R := fun e => e = .returned (.int .i64 (writeI t n off k ad).2)) (pt_thing b) hs (fun F hF => pwrite_any hF ht hn ho)
theorem ps_trunc (hs : Solo (PT b) X w t) (ht : TbI t) {n : Int} (hn : (Lit.int .i64 n).wf = true) {s : Int} (ho : -9223372036854775808 ≤ s ∧ s ≤ 9223372036854775807) : Calls Try.prog 26 #[.pointer (some ⟨b, 0, none⟩), .int .i64 n, .int .i64 s] w fun e w' => e = .returned (.int .i64 (truncI t n s).2) ∧ Solo (PT b) X w' (truncI t n s).1 ∧ Kept X w w' :=
  solo_call (R := fun e => e = .returned (.int .i64 (truncI t n s).2)) (pt_thing b) hs (fun F hF => ptrunc_any hF ht hn ho)
/-- what the table is in memory -/
theorem ps_tab (hs : Solo (PT b) X w t) : ∃ m l, l.map (·.x) = t.l ∧ PTab w b m l t.next := by
  obtain ⟨_, F, ⟨m, l, h1, h2, _⟩, _⟩ := hs
  exact ⟨m, l, h1, h2⟩
theorem tab_get {m : Nat} {l : List Iv} {next : Int} (h1 : l.map (·.x) = t.l) (h2 : PTab w b m l next) {n : Int} {x : Ino} (hg : getI t.l n = some x) : ∃ y, getV l n = some y ∧ y.x = x ∧ y ∈ l := by
  rw [← h1] at hg
  rcases vi_cases l n with ⟨_, g2⟩ | ⟨a, y, r, hl, hy, ha, g1, g2⟩
  · rw [g2] at hg; cases hg
  · rw [g2] at hg
    exact ⟨y, g1, Option.some.inj hg, by rw [hl]; exact List.mem_append_right _ List.mem_cons_self⟩
theorem ps_stat (hs : Solo (PT b) X w t) {n : Int} (hn : (Lit.int .i64 n).wf = true) {x : Ino} (hg : getI t.l n = some x) : Calls Try.prog 23 #[.pointer (some ⟨b, 0, none⟩), .int .i64 n] w fun e w' => e = .returned (.tuple #[.agg #[.int .i64 x.ino, .int .i64 x.kind, .int .i64 x.links, .int .i64 x.size], .bool true]) ∧ Below w.heap.size w w' := by
  obtain ⟨m, l, h1, h2⟩ := ps_tab hs
  obtain ⟨y, hy, rfl, _⟩ := tab_get h1 h2 hg
  exact pstat_of (c := 0) (fun W hb => pfind_some (h2.below hb) hn hy)
theorem ps_parts (hs : Solo (PT b) X w t) {n : Int} (hn : (Lit.int .i64 n).wf = true) {x : Ino} (hg : getI t.l n = some x) (hl : x.parts.length ≤ 100000) : Calls Try.prog 21 #[.pointer (some ⟨b, 0, none⟩), .int .i64 n] w fun e w' => ∃ v, e = .returned v ∧ OPa w' w.heap.size v x.parts ∧ Below w.heap.size w w' := by
  obtain ⟨m, l, h1, h2⟩ := ps_tab hs
  obtain ⟨y, hy, rfl, hm⟩ := tab_get h1 h2 hg
  have hI := h2.each y hm
  exact pparts_of (c := 0) (pfind_some h2 hn hy) hI.1 hI.2.1 hI.2.2.1 hl
theorem tab_small {m : Nat} {l : List Iv} {next : Int} (h1 : l.map (·.x) = t.l) (ht : TbI t) (hnx : t.next ≤ 9000000000000000000) : l.length ≤ 64 ∧ (l.map (·.x)).Pairwise (fun x y => x.ino < y.ino) ∧ (∀ y ∈ l, (Lit.int .i64 y.x.ino).wf = true) ∧ ∀ y ∈ l, y.x.parts.length ≤ 64 := by
  refine ⟨?_, by rw [h1]; exact ht.rise, fun y hy => ht.ino_wf hnx (by rw [← h1]; exact List.mem_map.2 ⟨y, hy, rfl⟩), fun y hy => ?_⟩
  · have := ht.most
    rw [← h1, List.length_map] at this
    exact this
  · have := ht.each y.x (by rw [← h1]; exact List.mem_map.2 ⟨y, hy, rfl⟩)
    exact (goodE_iff.1 this.2.2.2.2.2.2.1).1
theorem ps_all (hs : Solo (PT b) X w t) (ht : TbI t) (hnx : t.next ≤ 9000000000000000000) : Calls Try.prog 29 #[.pointer (some ⟨b, 0, none⟩)] w fun e w' => ∃ v, e = .returned v ∧ OI w' w.heap.size v (t.l.map (·.ino)) ∧ Below w.heap.size w w' := by
  obtain ⟨m, l, h1, h2⟩ := ps_tab hs
  obtain ⟨g1, g2, g3, _⟩ := tab_small (m := m) (next := t.next) h1 ht hnx
  have := pall_any h2 (by omega) g2 g3
  rw [show l.map (fun y => y.x.ino) = t.l.map (·.ino) from by rw [← h1, List.map_map]; rfl] at this
  exact this
theorem ps_next (hs : Solo (PT b) X w t) : Calls Try.prog 18 #[.pointer (some ⟨b, 0, none⟩)] w fun e w' => e = .returned (.int .i64 t.next) ∧ w = w' := by
  obtain ⟨m, l, h1, h2⟩ := ps_tab hs
  exact pnext_any h2
theorem ps_dump (hs : Solo (PT b) X w t) (ht : TbI t) (hnx : t.next ≤ 9000000000000000000) : Calls Try.prog 15 #[.pointer (some ⟨b, 0, none⟩)] w fun e w' => ∃ v l', e = .returned v ∧ l'.map (·.x) = t.l ∧ DRow w' w.heap.size v l' ∧ Below w.heap.size w w' := by
  obtain ⟨m, l, h1, h2⟩ := ps_tab hs
  obtain ⟨g1, g2, g3, g4⟩ := tab_small (m := m) (next := t.next) h1 ht hnx
  have := pdump_any h2 (by omega) g2 g3 (fun y hy => Nat.le_trans (g4 y hy) (by decide))
  rw [h1] at this
  exact this
end
theorem PtB4 {w : World} {g : Nat} {a b c d : Value} {T : TypeId} (h : w.heap[g]? = some (.cells #[a, b, c, d] T (0, 0))) : w.cell? ⟨g, 0, none⟩ = some a ∧ w.cell? ⟨g, 1, none⟩ = some b ∧ w.cell? ⟨g, 2, none⟩ = some c ∧ w.cell? ⟨g, 3, none⟩ = some d := ⟨cell_of h 0, cell_of h 1, cell_of h 2, cell_of h 3⟩
set_option maxHeartbeats 1000000 in
theorem wakes20_any (w : World) : Calls Try.prog 9 #[] w fun e w' => e = .returned (.bool true) ∧ Below w.heap.size w w' := by
  have h2 : (Lit.int .i64 2).wf = true := by decide
  obtain ⟨X, hX⟩ : ∃ X : Nat → Prop, X = fun k => k < w.heap.size := ⟨_, rfl⟩
  have CN := Lib.hid (ps_new w)
  rw [← hX] at CN
  have HXX := Lib.hid (show ∀ k, k < w.heap.size → X k from fun k hk => by rw [hX]; exact hk)
  have CM := Lib.hid (fun (W : World) (b : Nat) (hs : Solo (PT b) X W newT) => show Calls Try.prog 10 #[.pointer (some ⟨b, 0, none⟩), .int .i64 2] W fun e w' => e = .returned (.tuple #[.int .i64 2, .int .i64 0]) ∧ Solo (PT b) X w' ⟨[rootI, ⟨2, 2, 0, 0, 0, []⟩], 3⟩ ∧ Kept X W w' from ps_make hs TbI.new (by decide) 2)
  have CL := Lib.hid (fun (W : World) (b : Nat) (hs : Solo (PT b) X W ⟨[rootI, ⟨2, 2, 0, 0, 0, []⟩], 3⟩) => show Calls Try.prog 11 #[.pointer (some ⟨b, 0, none⟩), .int .i64 2, .int .i64 1] W fun e w' => e = .returned (.int .i64 0) ∧ Solo (PT b) X w' (fileT [] 0) ∧ Kept X W w' from ps_link hs (by have := TbI.new.make 2; rw [ft_make] at this; exact this) (by decide) h2 1)
  have CW := Lib.hid (fun (W : World) (b : Nat) (hs : Solo (PT b) X W (fileT [] 0)) => show Calls Try.prog 25 #[.pointer (some ⟨b, 0, none⟩), .int .i64 2, .int .i64 5, .int .i64 3, .int .i64 7] W fun e w' => e = .returned (.int .i64 0) ∧ Solo (PT b) X w' (fileT [⟨5, 3, 7, 0⟩] 8) ∧ Kept X W w' from by
    have := ps_write hs ft_tb0 h2 (off := 5) (by decide) 3 7
    rw [wk20_write] at this
    exact this)
  have HT4 : TbI (fileT [⟨5, 3, 7, 0⟩] 8) := by
    have := ft_tb0.write 2 5 3 7
    rw [wk20_write] at this
    exact this
  have CS := Lib.hid (fun (W : World) (b : Nat) (hs : Solo (PT b) X W (fileT [⟨5, 3, 7, 0⟩] 8)) => show Calls Try.prog 23 #[.pointer (some ⟨b, 0, none⟩), .int .i64 2] W fun e w' => e = .returned (.tuple #[.agg #[.int .i64 2, .int .i64 2, .int .i64 1, .int .i64 8], .bool true]) ∧ Below W.heap.size W w' from ps_stat hs h2 (ft_get _ _))
  have CP := Lib.hid (fun (W : World) (b : Nat) (hs : Solo (PT b) X W (fileT [⟨5, 3, 7, 0⟩] 8)) => show Calls Try.prog 21 #[.pointer (some ⟨b, 0, none⟩), .int .i64 2] W fun e w' => ∃ bk of_ cp, e = .returned (.slice (some ⟨bk, of_, none⟩) 1 cp) ∧ w'.cell? ⟨bk, of_ + 2, none⟩ = some (.int .i64 7) ∧ Below W.heap.size W w' from by
    refine (ps_parts hs h2 (ft_get _ _) (by decide)).mono ?_
    rintro e w' ⟨v, rfl, hO, hb⟩
    obtain ⟨ao6, cp6, hv6, hP6, _⟩ := OR.form par_rows hO
    obtain ⟨bk6, of6, hao6, p60, p61, p62, p63⟩ := PaL.at hP6 0 (show 0 < 1 by decide)
    subst hao6
    exact ⟨bk6, of6, cp6, by rw [hv6]; rfl, by simpa using p62, hb⟩)
  have CG := Lib.hid (fun (W : World) (b : Nat) (hs : Solo (PT b) X W (fileT [⟨5, 3, 7, 0⟩] 8)) => show Calls Try.prog 11 #[.pointer (some ⟨b, 0, none⟩), .int .i64 2, .int .i64 (-1)] W fun e w' => e = .returned (.int .i64 0) ∧ Solo (PT b) X w' ⟨[rootI], 3⟩ ∧ Kept X W w' from ps_link hs HT4 (by decide) h2 (-1))
  have HT5 : TbI ⟨[rootI], 3⟩ := by
    have := HT4.link 2 (-1)
    rw [wk20_gone] at this
    exact this
  have CA := Lib.hid (fun (W : World) (b : Nat) (hs : Solo (PT b) X W ⟨[rootI], 3⟩) => show Calls Try.prog 29 #[.pointer (some ⟨b, 0, none⟩)] W fun e w' => ∃ v, e = .returned v ∧ OI w' W.heap.size v [1] ∧ Below W.heap.size W w' from ps_all hs HT5 (by decide))
  have CX := Lib.hid (fun (W : World) (b : Nat) (hs : Solo (PT b) X W ⟨[rootI], 3⟩) => show Calls Try.prog 18 #[.pointer (some ⟨b, 0, none⟩)] W fun e w' => e = .returned (.int .i64 3) ∧ W = w' from ps_next hs)
  clear hX HT4 HT5 h2
  go_enter Try.func9, Try.ntmps9
  go_wp2_with (first
    | (go_at_call 6; refine CN.out.mono ?_; rintro e w1 ⟨b, rfl, hs, hb, _⟩; have HS1 := Lib.hid hs; have HK1 := Lib.hid (Kept.ofBelow hb X); clear hs hb)
    | (go_at_call 10; with_reducible refine (CM.out _ _ HS1.out).mono ?_; rintro e w2 ⟨rfl, hs, hk⟩; have HS2 := Lib.hid hs; have HK2 := Lib.hid (HK1.out.trans hk); clear hs hk)
    | (go_at_call 11; have hh := HS6.out; with_reducible refine (CG.out _ _ hh).mono ?_; rintro e w7 ⟨rfl, hs, hk⟩; have HS7 := Lib.hid hs; have HK7 := Lib.hid (HK6.out.trans hk); clear hs hk hh)
    | (go_at_call 11; with_reducible refine (CL.out _ _ HS2.out).mono ?_; rintro e w3 ⟨rfl, hs, hk⟩; have HS3 := Lib.hid hs; have HK3 := Lib.hid (HK2.out.trans hk); clear hs hk)
    | (go_at_call 25; with_reducible refine (CW.out _ _ HS3.out).mono ?_; rintro e w4 ⟨rfl, hs, hk⟩; have HS4 := Lib.hid hs; have HK4 := Lib.hid (HK3.out.trans hk); clear hs hk)
    | (go_at_call 23; with_reducible refine (CS.out _ _ HS4.out).mono ?_; rintro e w5 ⟨rfl, hb⟩; have HS5 := Lib.hid ((HS4.out.below (pt_thing b) hb).below (pt_thing b) (blwA w5 (.cells #[.int .i64 2, .int .i64 2, .int .i64 1, .int .i64 8] 56))); have HK5 := Lib.hid ((HK4.out.below hb).alloc (.cells #[.int .i64 2, .int .i64 2, .int .i64 1, .int .i64 8] 56)); have HZ5 := Lib.hid (heap_alloc_new w5 (.cells #[.int .i64 2, .int .i64 2, .int .i64 1, .int .i64 8] 56)); clear hb)
    | (go_at_call 21; with_reducible refine (CP.out _ _ HS5.out).mono ?_; rintro e w6 ⟨bk6, of6, cp6, rfl, p62, hb⟩; have HS6 := Lib.hid (HS5.out.below (pt_thing b) hb); have HK6 := Lib.hid (HK5.out.below hb); obtain ⟨z0, z1, z2, z3⟩ := PtB4 (below_heap hb HZ5.out); clear hb)
    | (go_at_call 29; with_reducible refine (CA.out _ _ HS7.out).mono ?_; rintro e w8 ⟨v8, rfl, hO, hb⟩; obtain ⟨ao8, cp8, hv8, _⟩ := hO.form; subst hv8; have HS8 := Lib.hid (HS7.out.below (pt_thing b) hb); have HK8 := Lib.hid (HK7.out.below hb); clear hb hO)
    | (go_at_call 18; with_reducible refine (CX.out _ _ HS8.out).mono ?_; rintro e w9 ⟨rfl, rfl⟩))
  go_ret
  exact ⟨rfl, Kept.toBelow HK8.out (Nat.le_refl _) HXX.out⟩
end Go.Proofs.Ytfkgeefoknaldaa
namespace Go.Proofs.Ytfkgeefoknaldaa
open Go.RowKit Go.Maps
set_option linter.unusedVariables false
set_option maxRecDepth 20000
/-- inodes of any make in a row of the call's own, each one's parts in a row of its own -/
structure DRowT (T : TypeId) (W : World) (B : Nat) (v : Value) (l : List Iv) : Prop where
  row : OR T 6 ivC W B v l
  parts : ∀ y ∈ l, OPa W B (.slice y.ao y.x.parts.length y.cap) y.x.parts
  off : ∀ y ∈ l, ∀ a, y.ao = some a → v.ownBlock ≠ some a.block
theorem DRowT.nil (T : TypeId) (W : World) (B : Nat) : DRowT T W B (.slice none 0 0) [] := ⟨OR.nil _ _, fun _ h => (by cases h), fun _ h => (by cases h)⟩
theorem DRowT.below {T : TypeId} {W W' : World} {B : Nat} {v : Value} {l : List Iv} (h : DRowT T W B v l) (hb : Below W.heap.size W W') : DRowT T W' B v l := ⟨h.row.below hb, fun y hy => OR.below (h.parts y hy) hb, h.off⟩
theorem DRowT.lower {T : TypeId} {W : World} {B C : Nat} {v : Value} {l : List Iv} (h : DRowT T W B v l) (hb : C ≤ B) : DRowT T W C v l := ⟨h.row.lower hb, fun y hy => OR.lower (h.parts y hy) hb, h.off⟩
theorem DRowT.snoc {T : TypeId} {W w' : World} {B : Nat} {v v' : Value} {l : List Iv} {y : Iv} (h : DRowT T W B v l) (hp : OPa W B (.slice y.ao y.x.parts.length y.cap) y.x.parts) (hne : ∀ a, y.ao = some a → v.ownBlock ≠ some a.block) (hI : OR T 6 ivC w' B v' (l ++ [y])) (hg : W.grownBy w' v.ownBlock) (hv : v'.ownBlock = v.ownBlock ∨ v'.ownBlock = some W.heap.size) : DRowT T w' B v' (l ++ [y]) := by
  have hk : Kept (fun k => v.ownBlock ≠ some k) W w' := (Kept.refl _ W).grown hg (fun k e hk => hk e)
  have all : ∀ z ∈ l ++ [y], OPa W B (.slice z.ao z.x.parts.length z.cap) z.x.parts ∧ ∀ a, z.ao = some a → v.ownBlock ≠ some a.block := fun z hz => by
    rcases List.mem_append.1 hz with hz | hz
    · exact ⟨h.parts z hz, h.off z hz⟩
    · rw [List.mem_singleton.1 hz]
      exact ⟨hp, hne⟩
  refine ⟨hI, fun z hz => OR.keep (all z hz).1 hk (fun k e => ?_), fun z hz a e => ?_⟩
  · obtain ⟨⟨a, ha, e2⟩, _⟩ := opa_own (all z hz).1 k e
    rw [← e2]
    exact (all z hz).2 a ha
  · rcases hv with e2 | e2
    · rw [e2]; exact (all z hz).2 a e
    · rw [e2]
      intro e3
      obtain ⟨_, _, hv3, _, _, _, h5, _⟩ := OR.form par_rows (all z hz).1
      cases hv3
      have := (h5 a e).2
      have := Option.some.inj e3
      omega
theorem DRow.toT {W : World} {B : Nat} {v : Value} {l : List Iv} (h : DRow W B v l) : DRowT 50 W B v l := ⟨h.row, h.parts, h.off⟩
/-- what lies so may be gone through -/
theorem DRowT.look {T TS : TypeId} (K : RowK Try.prog TS T 6 ivC) {W : World} {B : Nat} {v : Value} {l : List Iv} (h : DRowT T W B v l) : ∃ lo cap, v = .slice lo l.length cap ∧ IvQ W lo l ∧ l.length ≤ cap ∧ (lo = none → cap = 0) ∧ (∀ a, lo = some a → B ≤ a.block ∧ a.block < W.heap.size) ∧ ∀ y ∈ l, ∀ a, y.ao = some a → B ≤ a.block ∧ a.block < W.heap.size := by
  obtain ⟨lo, cap, h1, h2, h3, h4, h5, _⟩ := OR.form K h.row
  have all : ∀ y ∈ l, PaL W y.ao y.x.parts ∧ (y.ao = none → y.cap = 0) ∧ y.x.parts.length ≤ y.cap ∧ ∀ a, y.ao = some a → B ≤ a.block ∧ a.block < W.heap.size := fun y hy => by
    obtain ⟨_, _, e, g2, g3, g4, g5, _⟩ := OR.form par_rows (h.parts y hy)
    cases e
    exact ⟨g2, g4, g3, g5⟩
  exact ⟨lo, cap, h1, ⟨h2, fun y hy => ⟨(all y hy).1, (all y hy).2.1, (all y hy).2.2.1⟩⟩, h3, h4, h5, fun y hy => (all y hy).2.2.2⟩
set_option maxHeartbeats 1000000 in
theorem copied_any (lo : Option Addr) (cap : Nat) (l : List Iv) (w : World) (h : IvQ w lo l) (hl : l.length ≤ 100000) (hq : ∀ y ∈ l, y.x.parts.length ≤ 100000) :
    Calls Try.prog 17 #[.slice lo l.length cap] w fun e w' => ∃ v l', e = .returned v ∧ l'.map (·.x) = l.map (·.x) ∧ DRowT 50 w' w.heap.size v l' ∧ Below w.heap.size w w' := by
  have HL := Lib.hid h
  have HQ := Lib.hid hq
  have hlI : (l.length : Int) ≤ 100000 := by omega
  clear h hq
  go_enter Try.func17, Try.ntmps17
  go_wp2_with fail
  go_loopw [3, 4] (fun v x wr => ∃ (k : Nat) (l' : List Iv), x = .int .i64 k ∧ k ≤ l.length ∧ l'.map (·.x) = (l.take k).map (·.x) ∧ Hid (DRowT 50 wr w.heap.size v l') ∧ Hid (Below w.heap.size w wr)) (fun _ x _ => l.length - (intOf x).toNat)
  case atStart => exact ⟨0, [], rfl, Nat.zero_le _, rfl, Lib.hid (DRowT.nil _ _ _), Lib.hid (Below.refl _ _)⟩
  case round =>
    obtain ⟨k, l', rfl, hk, hm0, HR, HB⟩ := hrel
    have HM := Lib.hid hm0
    have hlen' : l'.length = k := by
      have := congrArg List.length hm0
      rw [List.length_map, List.length_map, List.length_take] at this
      omega
    clear hm0
    by_cases hlt : k < l.length
    · have k0 : (k : Int) < (l.length : Int) := by omega
      have HLr := Lib.hid (HL.out.below HB.out)
      obtain ⟨bk, off, hlo, z0, z1, z2, z3, z4, z5⟩ := HLr.out.at k hlt
      subst hlo
      have hmem : l[k] ∈ l := List.getElem_mem hlt
      have HS := Lib.hid (show (l' ++ [l[k]]).map (·.x) = (l.take (k + 1)).map (·.x) from by
        rw [List.map_append, HM.out, List.take_succ_eq_append_getElem hlt, List.map_append])
      have hyP := HLr.out.parts _ hmem
      have hyq := HQ.out _ hmem
      have HX0 := Lib.hid (show ((wr.alloc (inoO l[k])).alloc (.cells #[] 52 (0, 0))).heap[wr.heap.size]? = some (inoO l[k]) from below_heap (blwA _ _) (heap_alloc_new _ _))
      generalize l[k] = y at *
      have HPA := Lib.hid (PaL.below hyP.1 (blwO (blwA (wr.alloc (inoO y)) (.cells #[] 52 (0, 0))) (blwA wr (inoO y))))
      have HPN := Lib.hid hyP.2.1
      have HPC := Lib.hid hyP.2.2
      have HO0 := Lib.hid (show OPa ((wr.alloc (inoO y)).alloc (.cells #[] 52 (0, 0))) (wr.heap.size + 1) (.slice (some ⟨wr.heap.size + 1, 0, none⟩) 0 0) [] from OR.made (wr.alloc (inoO y)) (by simp) (Nat.le_refl _))
      have HL0 := Lib.hid (show l'.length + 1 ≤ 1000000 from by omega)
      have HLP := Lib.hid (show ([] : List Pt).length + y.x.parts.length ≤ 1000000 from by simp; omega)
      clear hyP hyq hmem
      go_wp2_with (first
        | (refine wpList_app_rows par_rows (o := ⟨some 19, _, _, _, _, _⟩) rfl (.tmp 16) (.tmp 18) rfl (B := wr.heap.size + 1) (v := .slice (some ⟨wr.heap.size + 1, 0, none⟩) 0 0) (D := []) rfl HO0.out (ao := y.ao) (cap := y.cap) (l := y.x.parts) (m := y.x.parts.length) rfl rfl HPA.out HPN.out HPC.out HLP.out (by simp) ?_; intro v2 w2 hI hg _; rw [List.nil_append] at hI; have hb2 : Below (wr.heap.size + 1) ((wr.alloc (inoO y)).alloc (.cells #[] 52 (0, 0))) w2 := (Below.refl _ _).grown hg (by simp) (fun k e => by cases e; exact Nat.le_refl _); obtain ⟨ao2, cp2, hv2, _, _, _, hn2, hr2⟩ := OR.form par_rows hI; clear hr2; subst hv2; have hbox := (hb2.block wr.heap.size (by omega)).trans HX0.out; obtain ⟨d0, d1, d2, d3, d4, d5⟩ := ino_cells hbox; have e5 := free_of hbox 5; have HB3 := Lib.hid (((((blwO (blwA _ _) (blwA wr (inoO y))).trans (hb2.mono (by omega))) : Below wr.heap.size wr w2)).setCell (p := ⟨wr.heap.size, 5, none⟩) (Nat.le_refl _) (.slice ao2 y.x.parts.length cp2)); have HD3 := Lib.hid (HR.out.below HB3.out); have HO3 := Lib.hid (OR.keep (hI.lower (show w.heap.size ≤ _ from Nat.le_succ_of_le HB.out.size)) ((Kept.refl (fun k => k ≠ wr.heap.size) w2).setCell (p := ⟨wr.heap.size, 5, none⟩) (fun e => e rfl) (.slice ao2 y.x.parts.length cp2)) (fun k e => by have := (opa_own hI k e).2.1; omega)); have HN3 := Lib.hid (show ∀ a, ao2 = some a → u3.ownBlock ≠ some a.block from fun a e e2 => by have h7 := (hn2 a e).1; have h8 := (HR.out.row.lt _ e2).2; omega); clear hI hg hb2 hn2 hbox)
        | (refine wpList_app_rows piv_rows (o := ⟨some 24, _, _, _, _, _⟩) rfl (.tmp 21) (.tmp 23) rfl (B := w.heap.size) (v := u3) (D := l') rfl (OR.below HD3.out.row (blwA _ (inoO ⟨y.x, ao2, cp2⟩))) (ao := some ⟨w2.heap.size, 0, none⟩) (cap := 1) (l := [⟨y.x, ao2, cp2⟩]) (m := 1) rfl rfl (Row.one (f := ivC) (box_new _ _ _ _)) (fun e => by cases e) (Nat.le_refl _) HL0.out (by have := HB.out.size; have := HB3.out.size; simp at *; omega) ?_; intro v5 w5 hI hg hv; have HD5 := Lib.hid (DRowT.snoc (y := ⟨y.x, ao2, cp2⟩) (HD3.out.below (blwA _ (inoO ⟨y.x, ao2, cp2⟩))) (OR.below HO3.out (blwA _ (inoO ⟨y.x, ao2, cp2⟩))) HN3.out hI hg hv); have HB5 := Lib.hid (((blwO (blwA _ (inoO ⟨y.x, ao2, cp2⟩)) (blwO HB3.out HB.out)).grown hg (by have := HB.out.size; have := HB3.out.size; simp at *; omega) (fun k e => (HD3.out.row.lt k e).1))); clear hI hg hv))
      go_roundw
      case rel => exact ⟨k + 1, l' ++ [⟨y.x, ao2, cp2⟩], by go_num, by omega, by rw [← HS.out, List.map_append, List.map_append]; rfl, HD5, HB5⟩
      case measure => simp [intOf]; omega
    · obtain rfl : k = l.length := by omega
      go_wp2_with fail
      go_ret
      have hm := HM.out
      rw [List.take_length] at hm
      exact ⟨_, rfl, l', hm, HR.out, HB.out⟩
end Go.Proofs.Ytfkgeefoknaldaa
