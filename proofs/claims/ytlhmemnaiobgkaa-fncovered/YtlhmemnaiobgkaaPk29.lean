/- Texts in one: SeJ, SeK, ImpE, OrdP, SeD. -/
import Derived.Test.YtlhmemnaiobgkaaPk28
import Derived.Test.YtlhmemnaiobgkaaPk8
import Derived.Test.YtlhmemnaiobgkaaPk12
import Derived.Test.YtlhmemnaiobgkaaPk25
import Derived.Test.YtlhmemnaiobgkaaPk6
import Derived.Test.YtlhmemnaiobgkaaPk26
import Derived.Test.YtlhmemnaiobgkaaPk13
import Derived.Test.YtlhmemnaiobgkaaPk18
/- Chapter 16, draws: a need, needs in order, and how great their patch numbers are. -/
namespace Go.Proofs.Ytlhmemnaiobgkaa.Se
open Go.RowKit Go.Proofs.Ytlhmemnaiobgkaa.Mem Go.Proofs.Ytlhmemnaiobgkaa.Laws Go.Proofs.Ytlhmemnaiobgkaa.Bytes Go.Proofs.Ytlhmemnaiobgkaa.Sha Go.Proofs.Ytlhmemnaiobgkaa.Ver Go.Proofs.Ytlhmemnaiobgkaa.Mod Go.Proofs.Ytlhmemnaiobgkaa.Ent Go.Proofs.Ytlhmemnaiobgkaa.Fe Go.Proofs.Ytlhmemnaiobgkaa.Draw
set_option linter.unusedVariables false
set_option linter.unusedSimpArgs false

/-- what a drawn need is, and how great its patch number -/
def Dnc (n : Nd) : Prop := Dn n ∧ 0 ≤ n.c ∧ n.c < 3
theorem dnc_of {s : ByteArray} {a b c : Int} {p : ByteArray} (hs : s ∈ pathL) (hd : Dv a b c p) {m : Int} (hm : m = major4 s ∨ (major4 s = 1 ∧ m = 0)) : Dnc ⟨s, m, b, c, p⟩ := ⟨dn_of hs hd hm, hd.2.2.1.1, hd.2.2.1.2⟩
theorem Dnc.ins {l : List Nd} {n : Nd} (h : ∀ m ∈ l, Dnc m) (hn : Dnc n) : ∀ m ∈ insN l n, Dnc m := fun m hm => by
  rcases ins_mem hm with rfl | h9
  · exact hn
  · exact h m h9

set_option maxRecDepth 1000000 in
set_option maxHeartbeats 2000000 in
theorem needC_any (W0 w : World) (g : Nat) (vb : Value) (xs : List Int) (hs : Sl W0 vb (bs xs)) (hby : Byt xs) (hx : xs.length ≤ 140737488355328) (hB : Below W0.heap.size W0 w) (hg : W0.heap.size ≤ g) (hc : Cur w g vb xs.length) :
    Calls Try.prog 29 #[.pointer (some ⟨g, 0, none⟩)] w fun e w' => ∃ n : Nd, e = .returned (.agg #[.string n.path, .int .i64 n.a, .int .i64 n.b, .int .i64 n.c, .string n.pre]) ∧ Dnc n ∧ Drawn W0 w g vb xs w' := by
  have hgw := hc.lt
  obtain ⟨W1, HW1, HR1, HD1⟩ : ∃ W1, Hid (w.alloc (.cells #[.string ⟨#[]⟩, .int .i64 0, .int .i64 0, .int .i64 0, .string ⟨#[]⟩] 32) = W1) ∧ Hid (W1.heap[w.heap.size]? = some (.cells (nc5 nil5) 32 (0, 0))) ∧ Hid (Drawn W0 w g vb xs W1) :=
    ⟨_, rfl, heap_alloc_new w _, (Drawn.refl hB hc).on hg hgw ((Below.refl _ _).alloc (Nat.le_refl _) _)⟩
  have q1 := path_any W0 W1 g vb xs hs hby hx HD1.out.below hg HD1.out.cur
  rw [← HW1.out] at q1
  go_enter Try.func29, Try.ntmps29
  go_wp2_with fail
  refine q1.mono ?_
  rw [HW1.out]
  rintro e w2 ⟨s, rfl, hsm, d2⟩
  have D2 : Hid (Drawn W0 w g vb xs w2) := HD1.out.and d2
  have R2 : Hid (w2.heap[w.heap.size]? = some (.cells (nc5 nil5) 32 (0, 0))) := rowApart HR1.out d2.apart (by omega)
  have q2 := draw_agg W0 w2 g vb xs hs hby hx D2.out.below hg D2.out.cur
  clear q1 HW1 HR1 HD1 d2
  go_wp2_with fail
  refine q2.mono ?_
  rintro e w3 ⟨a, b, c, p, rfl, hdv, d3⟩
  have D3 : Drawn W0 w g vb xs w3 := D2.out.and d3
  have hlt3 : w.heap.size < w3.heap.size := Nat.lt_of_lt_of_le (Array.getElem?_eq_some_iff.1 R2.out).1 d3.apart.size
  have hsz := pathL_size s hsm
  obtain ⟨W4, HW4, HR4, HN4, HD4⟩ : ∃ W4, Hid (w3.alloc (.cells #[.string s, .int .i64 a, .int .i64 b, .int .i64 c, .string p] 32) = W4) ∧ Hid (W4.heap[w.heap.size]? = some (.cells (nc5 nil5) 32 (0, 0))) ∧ Hid (Nr W4 w3.heap.size ⟨s, a, b, c, p⟩) ∧ Hid (Drawn W0 w g vb xs W4) :=
    ⟨_, rfl, rowKeep (rowApart R2.out d3.apart (by omega)) ((Below.refl _ _).alloc (Nat.le_refl _) _), heap_alloc_new w3 _, D3.on hg hgw ((Below.refl _ _).alloc (by omega) _)⟩
  have q3 := major_spec W4 s (by omega)
  rw [← HW4.out] at q3
  clear q2 R2 D2 d3 D3
  go_wp2_with fail
  refine q3.mono ?_
  rw [HW4.out]
  rintro e w5 ⟨rfl, b5⟩
  have R5 : Hid (w5.heap[w.heap.size]? = some (.cells (nc5 nil5) 32 (0, 0))) := rowKeep HR4.out b5
  have N5 : Nr w5 w3.heap.size ⟨s, a, b, c, p⟩ := rowKeep HN4.out b5
  have D5 : Hid (Drawn W0 w g vb xs w5) := HD4.out.on hg hgw (b5.mono (Nat.le_trans (by omega) (Nat.le_of_lt (Array.getElem?_eq_some_iff.1 HN4.out).1)))
  obtain ⟨k0, k1, k2, k3, k4⟩ := Nr.cells N5
  have f1 : w5.frozen? ⟨w3.heap.size, 1, none⟩ = false := frozen_of_row w5 _ 1 _ _ N5
  have hmj := pathL_ok s hsm
  obtain ⟨m, hm⟩ : ∃ m, major4 s = m := ⟨_, rfl⟩
  rw [hm]
  have HM : Hid (major4 s = m) := hm
  obtain ⟨W6, HW6, HR6, HN6, HD6⟩ : ∃ W6, Hid (w5.setCell ⟨w3.heap.size, 1, none⟩ (.int .i64 m) = W6) ∧ Hid (W6.heap[w.heap.size]? = some (.cells (nc5 nil5) 32 (0, 0))) ∧ Hid (Nr W6 w3.heap.size ⟨s, m, b, c, p⟩) ∧ Hid (Drawn W0 w g vb xs W6) := by
    refine ⟨_, rfl, (heap_setCell_other w5 ⟨w3.heap.size, 1, none⟩ _ _ (by show w.heap.size ≠ w3.heap.size; omega)).trans R5.out, ?_, D5.out.on hg hgw ((Below.refl _ _).setCell (p := ⟨w3.heap.size, 1, none⟩) (by show _ ≤ w3.heap.size; omega) _)⟩
    show (w5.setCell _ _).heap[w3.heap.size]? = _
    rw [heap_setCell_same w5 _ 1 _ _ _ N5]
    rfl
  have c1 : (w5.setCell ⟨w3.heap.size, 1, none⟩ (.int .i64 m)).cell? ⟨w3.heap.size, 1, none⟩ = some (.int .i64 m) := by rw [HW6.out]; exact (Nr.cells HN6.out).2.1
  clear q3 HW4 HR4 HN4 HD4 R5 N5 D5 k2 k3 k4 b5 hm
  by_cases hm1 : m = 1
  · have q4 := once_any W0 W6 g vb xs 4 (by omega) (by omega) hs hby hx HD6.out.below hg HD6.out.cur
    rw [← HW6.out] at q4
    have dm : (m == 1) = true := by simpa using hm1
    have HM1 : Hid (m = 1) := hm1
    clear hm1
    go_wp2_with fail
    refine q4.mono ?_
    rw [HW6.out]
    rintro e w7 ⟨on, rfl, d7⟩
    have R7 : Hid (w7.heap[w.heap.size]? = some (.cells (nc5 nil5) 32 (0, 0))) := rowApart HR6.out d7.apart (by omega)
    have N7 : Nr w7 w3.heap.size ⟨s, m, b, c, p⟩ := rowApart HN6.out d7.apart (by omega)
    have D7 : Hid (Drawn W0 w g vb xs w7) := HD6.out.and d7
    clear q4 c1 k0 k1 f1 HW6 HR6 HN6 HD6 d7
    cases on
    · have HDn : Hid (Dnc ⟨s, m, b, c, p⟩) := dnc_of hsm hdv (.inl HM.out.symm)
      have N7' : Hid _ := N7
      clear N7
      go_wp2_with (first | (refine wpList_load_row rfl 32 _ rfl w3.heap.size rfl 32 (nc5 ⟨s, m, b, c, p⟩) (0, 0) _ N7'.out Try.underlying32 rfl (sizeN5 _) ?_) | (refine wpList_store_row rfl 32 _ _ rfl w.heap.size (nc5 ⟨s, m, b, c, p⟩) rfl rfl 32 _ R7.out (sizeN5 _) rfl (oneN5 _) ?_))
      exact bodyPost_ret (v := .agg (nc5 ⟨s, m, b, c, p⟩)) (results_cell_row rfl _ _ w.heap.size 32 _ (0, 0) _ rfl (setRow_heap _ _ _ _ _ (0, 0) R7.out) Try.underlying32 rfl (sizeN5 _)) rfl ⟨⟨s, m, b, c, p⟩, rfl, HDn.out, (D7.out).on hg hgw (below_setRow (Below.refl _ _) (Nat.le_refl _) _)⟩
    · have HDn : Hid (Dnc ⟨s, 0, b, c, p⟩) := dnc_of hsm hdv (.inr ⟨by rw [HM.out, HM1.out], rfl⟩)
      have k1 := (Nr.cells N7).2.1
      have f1 : w7.frozen? ⟨w3.heap.size, 1, none⟩ = false := frozen_of_row w7 _ 1 _ _ N7
      have HN8 : Hid (Nr (w7.setCell ⟨w3.heap.size, 1, none⟩ (.int .i64 0)) w3.heap.size ⟨s, 0, b, c, p⟩) := by
        show (w7.setCell _ _).heap[w3.heap.size]? = _
        rw [heap_setCell_same w7 _ 1 _ _ _ N7]
        rfl
      have HR8 : Hid ((w7.setCell ⟨w3.heap.size, 1, none⟩ (.int .i64 0)).heap[w.heap.size]? = some (.cells (nc5 nil5) 32 (0, 0))) := (heap_setCell_other w7 ⟨w3.heap.size, 1, none⟩ _ _ (by show w.heap.size ≠ w3.heap.size; omega)).trans R7.out
      have HD8 : Hid (Drawn W0 w g vb xs (w7.setCell ⟨w3.heap.size, 1, none⟩ (.int .i64 0))) := D7.out.on hg hgw ((Below.refl _ _).setCell (p := ⟨w3.heap.size, 1, none⟩) (by show _ ≤ w3.heap.size; omega) _)
      clear N7 R7 D7
      go_wp2_with (first | (refine wpList_load_row rfl 32 _ rfl w3.heap.size rfl 32 (nc5 ⟨s, 0, b, c, p⟩) (0, 0) _ HN8.out Try.underlying32 rfl (sizeN5 _) ?_) | (refine wpList_store_row rfl 32 _ _ rfl w.heap.size (nc5 ⟨s, 0, b, c, p⟩) rfl rfl 32 _ HR8.out (sizeN5 _) rfl (oneN5 _) ?_))
      exact bodyPost_ret (v := .agg (nc5 ⟨s, 0, b, c, p⟩)) (results_cell_row rfl _ _ w.heap.size 32 _ (0, 0) _ rfl (setRow_heap _ _ _ _ _ (0, 0) HR8.out) Try.underlying32 rfl (sizeN5 _)) rfl ⟨⟨s, 0, b, c, p⟩, rfl, HDn.out, (HD8.out).on hg hgw (below_setRow (Below.refl _ _) (Nat.le_refl _) _)⟩
  · have dm : (m == 1) = false := by simpa using hm1
    have HDn : Hid (Dnc ⟨s, m, b, c, p⟩) := dnc_of hsm hdv (.inl HM.out.symm)
    rw [← HW6.out] at HR6 HN6 HD6
    clear hm1 k0
    go_wp2_with (first | (refine wpList_load_row rfl 32 _ rfl w3.heap.size rfl 32 (nc5 ⟨s, m, b, c, p⟩) (0, 0) _ HN6.out Try.underlying32 rfl (sizeN5 _) ?_) | (refine wpList_store_row rfl 32 _ _ rfl w.heap.size (nc5 ⟨s, m, b, c, p⟩) rfl rfl 32 _ HR6.out (sizeN5 _) rfl (oneN5 _) ?_))
    exact bodyPost_ret (v := .agg (nc5 ⟨s, m, b, c, p⟩)) (results_cell_row rfl _ _ w.heap.size 32 _ (0, 0) _ rfl (setRow_heap _ _ _ _ _ (0, 0) HR6.out) Try.underlying32 rfl (sizeN5 _)) rfl ⟨⟨s, m, b, c, p⟩, rfl, HDn.out, (HD6.out).on hg hgw (below_setRow (Below.refl _ _) (Nat.le_refl _) _)⟩

/-- drawn needs in order -/
structure DnsC (R : List Nd) : Prop where
  up : Up R
  all : ∀ n ∈ R, Dnc n
theorem DnsC.nil : DnsC [] := ⟨List.Pairwise.nil, fun n hn => (List.not_mem_nil hn).elim⟩
theorem DnsC.ins {R : List Nd} (h : DnsC R) {n : Nd} (hn : Dnc n) : DnsC (insN R n) := ⟨h.up.ins _, Dnc.ins h.all hn⟩

theorem DnsC.dq {R : List Nd} (h : DnsC R) : ∀ n ∈ R, Dq n := fun n hn => (h.all n hn).1

set_option maxRecDepth 1000000 in
set_option maxHeartbeats 8000000 in
theorem needsC_any (W0 w : World) (g : Nat) (vb : Value) (xs : List Int) (hs : Sl W0 vb (bs xs)) (hby : Byt xs) (hx : xs.length ≤ 140737488355328) (hB : Below W0.heap.size W0 w) (hg : W0.heap.size ≤ g) (hcu : Cur w g vb xs.length) :
    Calls Try.prog 15 #[.pointer (some ⟨g, 0, none⟩)] w fun e w' => ∃ (v' : Value) (R : List Nd), e = .returned v' ∧ R.length ≤ 3 ∧ DnsC R ∧ Od w' w.heap.size w'.heap.size v' R ∧ Drawn W0 w g vb xs w' := by
  have HSW : Hid (Sl W0 vb (bs xs)) := hs
  have hgw := hcu.lt
  clear hs
  have B0 : Hid (Apart g (g + 1) w w) := Apart.refl _ _ _
  have cu0 : Hid (Cur w (g) vb xs.length) := hcu
  have bw0 : Hid (Below W0.heap.size W0 w) := hB
  go_enter Try.func15, Try.ntmps15
  obtain ⟨W1, HW1, b1, f_d1⟩ : ∃ X, Hid (w.alloc (.cells #[] 32) = X) ∧ Below w.heap.size w X ∧ Hid (Odt X w.heap.size X.heap.size (.slice (some ⟨w.heap.size, 0, none⟩) 0 0) []) := ⟨_, rfl, (Below.refl _ _).alloc (Nat.le_refl _) _, ⟨On.lit 5 w w.heap.size 32 (Nat.le_refl _), Nat.le_refl _⟩⟩
  have z1 := b1.size
  have B1 := Kd.B B0 b1
  have cu1 := Kd.c cu0 b1
  have bw1 := Ke.b bw0 b1
  clear cu0 bw0
  clear b1
  go_wp2_with fail
  rw [HW1.out]
  refine (below_any W0 W1 g vb xs 4 (by omega) (by omega) HSW.out hby hx bw1.out hg cu1.out).mono ?_
  rintro e W2 ⟨y, rfl, hy0, hy1, d2⟩
  have z2 := d2.apart.size
  have B2 := Kd.D B1 d2
  have cu2 := Kd.e d2
  have bw2 := Kd.f d2
  have f_d2 : Hid (Odt W2 w.heap.size W1.heap.size (.slice (some ⟨w.heap.size, 0, none⟩) 0 0) []) := Odt.drawn f_d1.out d2 (by omega)
  clear cu1 bw1 d2 f_d1
  obtain ⟨j0, hj0, hj2⟩ : ∃ j : Nat, y = (j : Int) ∧ j ≤ 3 := ⟨y.toNat, by omega, by omega⟩
  subst hj0
  clear hy0 hy1
  go_wp2
  go_loopw [3, 4] (fun rv iv wr => ∃ (j : Nat) (R : List Nd) (a8 : Option Addr) (L8 c8 lo8 hi8 : Nat), rv = .slice a8 L8 c8 ∧ iv = .int .i64 (j : Int) ∧ R.length + j ≤ 3 ∧ w.heap.size ≤ lo8 ∧ lo8 ≤ hi8 ∧ hi8 ≤ wr.heap.size ∧ w.heap.size ≤ wr.heap.size ∧ Hid (DnsC R) ∧ Hid (Odt wr lo8 hi8 (.slice a8 L8 c8) R) ∧ Hid (Apart g (g + 1) w wr) ∧ Hid (Cur wr (g) vb xs.length) ∧ Hid (Below W0.heap.size W0 wr)) (fun _ iv _ => (intOf iv).toNat)
  case atStart => exact ⟨j0, [], some ⟨w.heap.size, 0, none⟩, 0, 0, w.heap.size, W1.heap.size, rfl, rfl, by simp; omega, Nat.le_refl _, by omega, by omega, by omega, DnsC.nil, f_d2, B2, cu2, bw2⟩
  case round =>
    obtain ⟨j, R, a8, L8, c8, lo8, hi8, rfl, rfl, hRj, hlo8, hlh8, hhi8, hwW, HWN, f_d3, B3, cu3, bw3⟩ := hrel
    obtain ⟨W3, hW3⟩ : ∃ X, X = wr := ⟨_, rfl⟩
    subst hW3
    clear f_d2 cu2 bw2
    by_cases hj0 : j = 0
    · subst hj0
      go_wp2
      go_ret
      exact ⟨_, R, rfl, by omega, HWN.out, On.mono f_d3.out.1 hlo8 f_d3.out.2, ⟨cu3.out, B3.out, bw3.out⟩⟩
    · obtain ⟨i2, rfl⟩ : ∃ i2, j = i2 + 1 := ⟨j - 1, by omega⟩
      have d0 : (0 : Int) < ((i2 + 1 : Nat) : Int) := by omega
      have wj : IntKind.i64.wrap (((i2 + 1 : Nat) : Int) - 1) = (i2 : Int) := by rw [IntKind.wrap_i64]; omega
      clear hj0
      go_wp2_with fail
      refine (needC_any W0 W3 g vb xs HSW.out hby hx bw3.out hg cu3.out).mono ?_
      rintro e W4 ⟨n, rfl, hn0, d4⟩
      have z4 := d4.apart.size
      have B4 := Kd.D B3 d4
      have cu4 := Kd.e d4
      have bw4 := Kd.f d4
      have f_d4 : Hid (Odt W4 lo8 hi8 (.slice a8 L8 c8) R) := Odt.drawn f_d3.out d4 (by omega)
      clear cu3 bw3 d4 f_d3
      go_wp2_with fail
      refine (put_any W4 _ R n f_d4.out.1.sd (by omega)).mono ?_
      rintro e W5 ⟨v9, rfl, od9, b5⟩
      have z5 := b5.size
      have B5 := Kd.B B4 b5
      have f_d5 : Hid (Odt W5 lo8 hi8 (.slice a8 L8 c8) R) := Odt.later f_d4.out b5
      clear f_d4
      have cu5 := Kd.c cu4 b5
      have bw5 := Ke.b bw4 b5
      clear cu4 bw4
      obtain ⟨a9, L9, c9, rfl⟩ : ∃ a9 L9 c9, v9 = .slice a9 L9 c9 := by obtain ⟨a9, c9, e9⟩ := Od.slice od9; exact ⟨a9, _, c9, e9⟩
      clear f_d5
      have f_d5 : Hid (Odt W5 W4.heap.size W5.heap.size (.slice a9 L9 c9) (insN R n)) := ⟨od9, Nat.le_refl _⟩
      clear od9
      have HWN2 : Hid (DnsC (insN R n)) := HWN.out.ins hn0
      have hRk2 := ins_grow R n
      go_wp2
      go_roundw
      case rel => exact ⟨i2, insN R n, a9, L9, c9, W4.heap.size, W5.heap.size, rfl, by go_num, by omega, by omega, by omega, by omega, by omega, HWN2, f_d5, B5, cu5, bw5⟩
      case measure => (simp [intOf]; try omega)

end Go.Proofs.Ytlhmemnaiobgkaa.Se

/- Chapter 16, draws: two lists of needs. -/
namespace Go.Proofs.Ytlhmemnaiobgkaa.Se
open Go.RowKit Go.Proofs.Ytlhmemnaiobgkaa.Mem Go.Proofs.Ytlhmemnaiobgkaa.Laws Go.Proofs.Ytlhmemnaiobgkaa.Bytes Go.Proofs.Ytlhmemnaiobgkaa.Ver Go.Proofs.Ytlhmemnaiobgkaa.Ent Go.Proofs.Ytlhmemnaiobgkaa.Fe Go.Proofs.Ytlhmemnaiobgkaa.Draw
set_option linter.unusedVariables false
set_option linter.unusedSimpArgs false

/-- cells of a row that is owned are stored: what the row then holds -/
theorem On.put {n m : Nat} {w : World} {lo hi g cap : Nat} {e : TypeId} {cs : List Value} (o : On n w lo hi e (.slice (some ⟨g, 0, none⟩) m cap) m cs) :
    ∃ cur : List Value, w.heap[g]? = some (.cells cur.toArray e (0, 0)) ∧ cs.length = m * n ∧ m * n ≤ cur.length ∧ lo ≤ g ∧ g < hi ∧ (∀ j, j < m * n → cur[j]? = cs[j]?) ∧
      ∀ (w' : World) (off : Nat) (vs : List Value), w'.heap[g]? = some (.cells (putL cur off vs).toArray e (0, 0)) → On n w' lo hi e (.slice (some ⟨g, 0, none⟩) m cap) m (putL cs off vs) := by
  obtain ⟨⟨h1, h2⟩, h3⟩ := o
  rcases h2 with ⟨he, _⟩ | ⟨g', cap', cur, he, hb, hg, hnc, hcm, hcs, ht⟩
  · cases he
  · simp only [Value.slice.injEq, Option.some.injEq, Addr.mk.injEq] at he
    obtain ⟨⟨rfl, _⟩, _, rfl⟩ := he
    have hl : m * n ≤ cur.toList.length := by
      rw [Array.length_toList, hcs]
      exact Nat.mul_le_mul_right _ hnc
    have hc : ∀ j, j < m * n → cur.toList[j]? = cs[j]? := fun j hj => by
      rw [← ht, List.getElem?_take, if_pos (by omega)]
    refine ⟨cur.toList, by simpa using hg, h1, hl, hb, h3 g rfl, hc, fun w' off vs hw => ⟨⟨by rw [putL_len, h1], .inr ⟨g, cap, (putL cur.toList off vs).toArray, rfl, hb, hw, hnc, hcm, by simp [putL_len, hcs], ?_⟩⟩, h3⟩⟩
    apply List.ext_getElem?
    intro j
    by_cases hj : j < m * n
    · rw [List.getElem?_take, if_pos hj, List.toList_toArray, putL_get, putL_get, hc j hj]
      have e1 : j < cur.toList.length := by omega
      have e2 : j < cs.length := by omega
      by_cases h9 : off ≤ j ∧ j < off + vs.length
      · rw [if_pos ⟨h9.1, h9.2, e1⟩, if_pos ⟨h9.1, h9.2, e2⟩]
      · rw [if_neg (fun h => h9 ⟨h.1, h.2.1⟩), if_neg (fun h => h9 ⟨h.1, h.2.1⟩)]
    · have e1 : ((putL cur.toList off vs).toArray.toList.take (m * n))[j]? = none := List.getElem?_eq_none (by simp [putL_len]; omega)
      have e2 : (putL cs off vs)[j]? = none := List.getElem?_eq_none (by rw [putL_len]; omega)
      rw [e2]
      first | exact e1 | (rw [show (putL cs off vs).length = m * n by rw [putL_len, h1]]; exact e1)
theorem On.form1 {n m : Nat} {w : World} {lo hi : Nat} {e : TypeId} {v : Value} {cs : List Value} (h : On n w lo hi e v m cs) (hm : 0 < m) : ∃ g cap, v = .slice (some ⟨g, 0, none⟩) m cap := by
  rcases h.1.2 with ⟨_, rfl⟩ | ⟨g, cap, cur, rfl, _⟩
  · omega
  · exact ⟨g, cap, rfl⟩
theorem putL_left : ∀ (vs a b : List Value) (o : Nat), o + vs.length ≤ a.length → putL (a ++ b) o vs = putL a o vs ++ b := by
  intro vs
  induction vs with
  | nil => intro a b o _; rfl
  | cons v r ih =>
    intro a b o h
    rw [List.length_cons] at h
    rw [putL, putL, List.set_append_left _ _ (by omega), ih _ _ _ (by simp; omega)]
theorem putL_right : ∀ (vs a b : List Value) (o : Nat), putL (a ++ b) (a.length + o) vs = a ++ putL b o vs := by
  intro vs
  induction vs with
  | nil => intro a b o; rfl
  | cons v r ih =>
    intro a b o
    rw [putL, putL, List.set_append_right _ _ (by omega), show a.length + o - a.length = o by omega, Nat.add_assoc, ih]
/-- cells of one need are stored -/
theorem nds_put {q q' : Nd} {off : Nat} {vs : List Value} (ho : off + vs.length ≤ 5) (h : putL q.cs off vs = q'.cs) : ∀ (l : List Nd) (k : Nat), l[k]? = some q → putL (nds l) (k * 5 + off) vs = nds (l.set k q') := by
  intro l
  induction l with
  | nil => intro k hk; simp at hk
  | cons x r ih =>
    intro k hk
    have e : nds (x :: r) = x.cs ++ nds r := rfl
    have hl : x.cs.length = 5 := rfl
    cases k with
    | zero =>
      simp only [List.getElem?_cons_zero, Option.some.injEq] at hk
      subst hk
      rw [e, Nat.zero_mul, Nat.zero_add, putL_left _ _ _ _ (by rw [hl]; exact ho), h]
      rfl
    | succ k =>
      rw [e, show (k + 1) * 5 + off = x.cs.length + (k * 5 + off) by rw [hl]; omega, putL_right, ih k (by simpa using hk)]
      rfl
theorem Dq.minor {n : Nd} (h : Dq n) {y : Int} (h0 : 0 ≤ y) (h1 : y ≤ 3) : Dq ⟨n.path, n.a, y, n.c, n.pre⟩ := by
  obtain ⟨h2, h3, h4⟩ := h
  refine ⟨h2, ?_, h4⟩
  show fits4 n.path n.a y n.c n.pre = true
  have h5 : fits4 n.path n.a n.b n.c n.pre = true := h3
  unfold fits4 okV at h5 ⊢
  simp only [Bool.and_eq_true, Bool.or_eq_true, decide_eq_true_eq] at h5 ⊢
  obtain ⟨⟨k1, k2⟩, k3⟩ := h5
  refine ⟨⟨k1, ?_⟩, k3⟩
  obtain ⟨⟨⟨j1, j2⟩, j3⟩, j4⟩ := k2
  refine ⟨⟨⟨j1, ?_⟩, j3⟩, j4⟩
  unfold inM
  simp only [Bool.and_eq_true, decide_eq_true_eq]
  omega

/-- how the two lists are told -/
def DcP (w : World) (e : Ending) (w' : World) : Prop := ∃ (v v2 : Value) (R s : List Nd), e = .returned (.tuple #[v, v2]) ∧ R.length ≤ 3 ∧ s.length ≤ 3 ∧ DnsC R ∧ (∀ n ∈ s, Dq n) ∧ Sd w' v R ∧ Sd w' v2 s ∧ Below w.heap.size w w'

set_option maxRecDepth 1000000 in
set_option maxHeartbeats 8000000 in
theorem drawCovers_any (w : World) (vb : Value) (xs : List Int) (hs : Sl w vb (bs xs)) (hby : Byt xs) (hx : xs.length ≤ 140737488355328) :
    Calls Try.prog 6 #[vb] w fun e w' => DcP w e w' := by
  obtain ⟨i0, hi, hz0, hz1, hz2⟩ := info_parts infoN
  have HSL : Hid (Sl w vb (bs xs)) := hs
  clear hs
  have B0 : Hid (Below w.heap.size w w) := Below.refl _ _
  go_enter Try.func6, Try.ntmps6
  go_wp2_with fail
  refine (new_any w _ xs (HSL.out.later B0.out) hby hx).mono ?_
  rintro e W1 ⟨rfl, d1⟩
  have hcg : w.heap.size < W1.heap.size := d1.cur.lt
  have HSW : Hid (Sl w vb (bs xs)) := (HSL.out.later B0.out)
  have cu0 : Hid True := trivial
  have bw0 : Hid True := trivial
  have z1 := d1.apart.size
  have B1 : Hid (Below w.heap.size w W1) := B0.out.trans (d1.below.mono B0.out.size)
  have cu1 := Kd.e d1
  have bw1 := Kd.f d1
  clear cu0 bw0 d1
  go_wp2_with fail
  refine (needsC_any w W1 (w.heap.size) _ xs HSW.out hby hx bw1.out (Nat.le_refl _) cu1.out).mono ?_
  rintro e W2 ⟨v9, R, rfl, hR3, hDN, o9, d2⟩
  have z2 := d2.apart.size
  have B2 : Hid (Below w.heap.size w W2) := B0.out.trans (d2.below.mono B0.out.size)
  have cu2 := Kd.e d2
  have bw2 := Kd.f d2
  clear cu1 bw1 d2
  obtain ⟨a9, c9, rfl⟩ := Od.slice o9
  have HDN := Ke.h hDN
  clear hDN
  have f_d2 : Hid (Odt W2 W1.heap.size W2.heap.size (.slice a9 R.length c9) R) := ⟨o9, Nat.le_refl _⟩
  clear o9
  go_wp2_with fail
  refine (once_any w W2 (w.heap.size) _ xs 2 (by omega) (by omega) HSW.out hby hx bw2.out (Nat.le_refl _) cu2.out).mono ?_
  rintro e W3 ⟨bb, rfl, d3⟩
  have z3 := d3.apart.size
  have B3 : Hid (Below w.heap.size w W3) := B0.out.trans (d3.below.mono B0.out.size)
  have cu3 := Kd.e d3
  have bw3 := Kd.f d3
  have f_d3 : Hid (Odt W3 W1.heap.size W2.heap.size (.slice a9 R.length c9) R) := Odt.drawn f_d2.out d3 (by omega)
  clear cu2 bw2 d3 f_d2
  cases bb
  · have OL : On 5 (W3.alloc (.cells #[] 32)) W3.heap.size (W3.alloc (.cells #[] 32)).heap.size 32 (.slice (some ⟨W3.heap.size, 0, none⟩) 0 0) 0 [] := On.lit 5 W3 W3.heap.size 32 (Nat.le_refl _)
    have sA : ∀ ob, Sn 5 (W3.alloc ob) (.slice a9 R.length c9) R.length (nds R) := fun ob => Sn.later f_d3.out.1.sd ((Below.refl _ _).alloc (Nat.le_refl _) _)
    have k1 : 0 + R.length ≤ maxLen := by unfold maxLen; omega
    have k2 : (0 + R.length) * 56 ≤ 140737488355328 := by omega
    go_wp2_with (at_builtin; go_must (refine wpl_appn 5 (by omega) _ rfl (.tmp 16) (.tmp 17) 24 rfl 32 i0 (.agg #[.string ⟨#[]⟩, .int .i64 0, .int .i64 0, .int .i64 0, .string ⟨#[]⟩]) 56 Try.underlying24 hi hz0 hz1 hz2 rfl W3.heap.size _ 0 [] rfl OL _ rfl R.length (nds R) (sA _) (nds_one R) k1 k2 (by simp) ?_))
    intro v5 W4 o5 b5 _
    have b4 : Below W3.heap.size W3 W4 := ((Below.refl _ _).alloc (Nat.le_refl _) _).trans b5
    have o5 : Od W4 W3.heap.size W4.heap.size v5 R := by first | exact o5 | (rw [Nat.zero_add, List.nil_append] at o5; exact o5)
    clear b5 OL sA k1 k2
    have z4 := b4.size
    have B4 := Ke.b B3 b4
    have f_d4 : Hid (Odt W4 W1.heap.size W2.heap.size (.slice a9 R.length c9) R) := Odt.later f_d3.out b4
    clear f_d3
    have cu4 := Kd.c cu3 b4
    have bw4 := Ke.b bw3 b4
    clear cu3 bw3
    obtain ⟨a5, c5, rfl⟩ := Od.slice o5
    have O5 : Hid (Odt W4 W3.heap.size W4.heap.size (.slice a5 R.length c5) R) := ⟨o5, Nat.le_refl _⟩
    clear o5
    by_cases hz : R.length = 0
    · have hz1 : ¬ (0 : Int) < (R.length : Int) := by omega
      clear hz
      go_wp2
      go_ret2
      exact ⟨_, _, R, R, rfl, hR3, hR3, HDN.out, HDN.out.dq, f_d4.out.1.sd, O5.out.1.sd, B4.out⟩
    · have hz1 : (0 : Int) < (R.length : Int) := by omega
      obtain ⟨g5, c8, he⟩ := On.form1 O5.out.1 (by omega)
      simp only [Value.slice.injEq] at he
      obtain ⟨rfl, _, rfl⟩ := he
      have f_e4 : Hid (Odt W4 W3.heap.size W4.heap.size (.slice (some ⟨g5, 0, none⟩) R.length c5) R) := O5.out
      clear O5
      go_wp2_with fail
      refine (below_any w W4 (w.heap.size) _ xs 4 (by omega) (by omega) HSW.out hby hx bw4.out (Nat.le_refl _) cu4.out).mono ?_
      rintro e W5 ⟨y, rfl, hy0, hy1, d5⟩
      have z5 := d5.apart.size
      have B5 : Hid (Below w.heap.size w W5) := B0.out.trans (d5.below.mono B0.out.size)
      have cu5 := Kd.e d5
      have bw5 := Kd.f d5
      have f_d5 : Hid (Odt W5 W1.heap.size W2.heap.size (.slice a9 R.length c9) R) := Odt.drawn f_d4.out d5 (by omega)
      have f_e5 : Hid (Odt W5 W3.heap.size W4.heap.size (.slice (some ⟨g5, 0, none⟩) R.length c5) R) := Odt.drawn f_e4.out d5 (by omega)
      clear cu4 bw4 d5 f_d4 f_e4
      obtain ⟨cur, hcur, hcl, hcm, hg1, hg2, hcs, hput⟩ := On.put f_e5.out.1
      obtain ⟨q, hq⟩ : ∃ q, R[0]? = some q := ⟨R[0], by simp⟩
      have HP := Ke.h hput
      clear hput hcs
      go_wp2_with (refine wpl_oneG rfl 3 _ _ rfl g5 2 (.int .i64 y) rfl rfl cur 32 hcur (by omega) (by kernel_rfl) rfl _ rfl ?_)
      intro W6 r8 g8
      have om : Od W6 W3.heap.size W4.heap.size (.slice (some ⟨g5, 0, none⟩) R.length c5) (R.set 0 ⟨q.path, q.a, y, q.c, q.pre⟩) := by have h9 := HP.out W6 2 [.int .i64 y] r8; rw [show 2 = 0 * 5 + 2 from rfl, nds_put (q := q) (q' := ⟨q.path, q.a, y, q.c, q.pre⟩) (by simp) rfl R 0 hq] at h9; unfold Od; rw [List.length_set]; exact h9
      have od := Odt.gro f_d5.out g8 (fun k9 h9 => by injection h9 with h9; omega)
      have B6 : Hid (Below w.heap.size w W6) := belowGro B5.out g8 B5.out.size (fun k9 h9 => by injection h9 with h9; omega)
      have hall : ∀ n ∈ R.set 0 ⟨q.path, q.a, y, q.c, q.pre⟩, Dq n := fun n hn => by
        rcases List.mem_or_eq_of_mem_set hn with h9 | rfl
        · exact HDN.out.dq n h9
        · exact (HDN.out.dq q (List.mem_of_getElem? hq)).minor hy0 (by omega)
      go_wp2
      go_ret2
      exact ⟨_, _, R, _, rfl, hR3, (by rw [List.length_set]; exact hR3), HDN.out, hall, od.1.sd, om.sd, B6.out⟩
  · go_wp2_with fail
    refine (needsC_any w W3 (w.heap.size) _ xs HSW.out hby hx bw3.out (Nat.le_refl _) cu3.out).mono ?_
    rintro e W4 ⟨v8, S, rfl, hS3, hDS, o8, d4⟩
    have z4 := d4.apart.size
    have B4 : Hid (Below w.heap.size w W4) := B0.out.trans (d4.below.mono B0.out.size)
    have cu4 := Kd.e d4
    have bw4 := Kd.f d4
    have f_d4 : Hid (Odt W4 W1.heap.size W2.heap.size (.slice a9 R.length c9) R) := Odt.drawn f_d3.out d4 (by omega)
    clear cu3 bw3 d4 f_d3
    obtain ⟨a8, c8, rfl⟩ := Od.slice o8
    go_wp2
    go_ret2
    exact ⟨_, _, R, S, rfl, hR3, hS3, HDN.out, hDS.dq, f_d4.out.1.sd, o8.sd, B4.out⟩

end Go.Proofs.Ytlhmemnaiobgkaa.Se

/- Chapter 3, the landed code: what is bumped. -/
namespace Go.Proofs.Ytlhmemnaiobgkaa.Ver
set_option linter.unusedVariables false
set_option linter.unusedSimpArgs false
open Go.RowKit Go.Proofs.Ytlhmemnaiobgkaa.Mem Go.Proofs.Ytlhmemnaiobgkaa.Laws Go.Proofs.Ytlhmemnaiobgkaa.Bytes Go.Proofs.Ytlhmemnaiobgkaa.Sha

set_option maxRecDepth 1000000 in
set_option maxHeartbeats 1000000 in
theorem bumpI_no (w : World) (a b c : Int) (p : ByteArray) (part : Int) (hp : p.size ≤ 1000000000000) (hok : okV a b c p = false) :
    Calls Try.prog 9 #[ver a b c p, .int .i64 part] w fun e w' => e = .returned (ver a b c p) ∧ Below w.heap.size w w' := by
  have q := ok_impl ((w.alloc (.cells #[.int .i64 a, .int .i64 b, .int .i64 c, .string p] 29)).alloc (.cells #[.int .i64 0, .int .i64 0, .int .i64 0, .string ⟨#[]⟩] 29)) a b c p hp
  rw [hok] at q
  have HR0 : Hid (Vr ((w.alloc (.cells #[.int .i64 a, .int .i64 b, .int .i64 c, .string p] 29)).alloc (.cells #[.int .i64 0, .int .i64 0, .int .i64 0, .string ⟨#[]⟩] 29)) w.heap.size a b c p) := Vr.same (w := w.alloc (.cells (vc a b c p) 29)) (heap_alloc_new w _) ((Below.refl _ _).alloc (Nat.le_refl _) _)
  have HR1 : Hid (Vr ((w.alloc (.cells #[.int .i64 a, .int .i64 b, .int .i64 c, .string p] 29)).alloc (.cells #[.int .i64 0, .int .i64 0, .int .i64 0, .string ⟨#[]⟩] 29)) (w.heap.size + 1) 0 0 0 ⟨#[]⟩) := heap_alloc2_new w _ _
  have HB : Hid (Below w.heap.size w ((w.alloc (.cells #[.int .i64 a, .int .i64 b, .int .i64 c, .string p] 29)).alloc (.cells #[.int .i64 0, .int .i64 0, .int .i64 0, .string ⟨#[]⟩] 29))) := ((Below.refl _ _).alloc (Nat.le_refl _) _).alloc (by simp) _
  unfold ver at q ⊢
  clear hok
  go_enter Try.func9, Try.ntmps9
  go_wp2_with fail
  refine q.mono ?_
  rintro e w5 ⟨rfl, b5⟩
  have r0 := Vr.same HR0.out b5
  have r1 := Vr.same HR1.out b5
  have hb5 : Below w.heap.size w w5 := HB.out.trans (b5.mono (by simp; omega))
  clear HR0 HR1 HB q b5
  go_wp2_with (first | (refine wpList_load_row rfl 29 _ rfl w.heap.size rfl 29 (vc a b c p) (0, 0) _ r0 Try.underlying29 rfl (sizeV a b c p) ?_) | (refine wpList_store_row rfl 29 _ _ rfl (w.heap.size + 1) (vc a b c p) rfl rfl 29 (vc 0 0 0 ⟨#[]⟩) r1 (sizeV a b c p) rfl (oneV a b c p) ?_))
  exact bodyPost_ret (v := .agg (vc a b c p)) (results_cell_row rfl _ _ (w.heap.size + 1) 29 _ (0, 0) _ rfl (Vr.row r1 a b c p) Try.underlying29 rfl (sizeV a b c p)) rfl ⟨rfl, below_setRow hb5 (by omega) _⟩

set_option maxRecDepth 1000000 in
set_option maxHeartbeats 1000000 in
theorem bumpI_0 (w : World) (a b c : Int) (p : ByteArray) (part : Int) (hp : p.size ≤ 1000000000000) (hok : okV a b c p = true) (h0 : part = 0) :
    Calls Try.prog 9 #[ver a b c p, .int .i64 part] w fun e w' => e = .returned (if okV (a + 1) 0 0 ⟨#[]⟩ = true then ver (a + 1) 0 0 ⟨#[]⟩ else ver a b c p) ∧ Below w.heap.size w w' := by
  have q2 : ∀ W, _ := fun W => ok_impl W (a + 1) 0 0 ⟨#[]⟩ (by show (0 : Nat) ≤ _; omega)
  obtain ⟨ok2, hok2⟩ : ∃ x, okV (a + 1) 0 0 ⟨#[]⟩ = x := ⟨_, rfl⟩
  rw [hok2] at q2 ⊢
  clear hok2
  unfold ver at q2 ⊢
  have d0 : (part == 0) = true := by simpa using h0
  clear h0
  obtain ⟨hA, hB', hC⟩ : (∃ n : Nat, a = (n : Int) ∧ n ≤ 1000000) ∧ (∃ n : Nat, b = (n : Int) ∧ n ≤ 1000000) ∧ (∃ n : Nat, c = (n : Int) ∧ n ≤ 1000000) := by
    have h3 := hok
    unfold okV at h3
    simp only [Bool.and_eq_true] at h3
    exact ⟨inM_nat h3.1.1.1, inM_nat h3.1.1.2, inM_nat h3.1.2⟩
  have qa : 0 ≤ a ∧ a ≤ 1000000 := by obtain ⟨n, rfl, h⟩ := hA; omega
  have qb : 0 ≤ b ∧ b ≤ 1000000 := by obtain ⟨n, rfl, h⟩ := hB'; omega
  have qc : 0 ≤ c ∧ c ≤ 1000000 := by obtain ⟨n, rfl, h⟩ := hC; omega
  have q := ok_impl ((w.alloc (.cells #[.int .i64 a, .int .i64 b, .int .i64 c, .string p] 29)).alloc (.cells #[.int .i64 0, .int .i64 0, .int .i64 0, .string ⟨#[]⟩] 29)) a b c p hp
  rw [hok] at q
  have HR0 : Hid (Vr ((w.alloc (.cells #[.int .i64 a, .int .i64 b, .int .i64 c, .string p] 29)).alloc (.cells #[.int .i64 0, .int .i64 0, .int .i64 0, .string ⟨#[]⟩] 29)) w.heap.size a b c p) := Vr.same (w := w.alloc (.cells (vc a b c p) 29)) (heap_alloc_new w _) ((Below.refl _ _).alloc (Nat.le_refl _) _)
  have HR1 : Hid (Vr ((w.alloc (.cells #[.int .i64 a, .int .i64 b, .int .i64 c, .string p] 29)).alloc (.cells #[.int .i64 0, .int .i64 0, .int .i64 0, .string ⟨#[]⟩] 29)) (w.heap.size + 1) 0 0 0 ⟨#[]⟩) := heap_alloc2_new w _ _
  have HB : Hid (Below w.heap.size w ((w.alloc (.cells #[.int .i64 a, .int .i64 b, .int .i64 c, .string p] 29)).alloc (.cells #[.int .i64 0, .int .i64 0, .int .i64 0, .string ⟨#[]⟩] 29))) := ((Below.refl _ _).alloc (Nat.le_refl _) _).alloc (by simp) _
  unfold ver at q
  clear hok hA hB' hC
  go_enter Try.func9, Try.ntmps9
  go_wp2_with fail
  refine q.mono ?_
  rintro e w5 ⟨rfl, b5⟩
  have r0 := Vr.same HR0.out b5
  have r1 := Vr.same HR1.out b5
  have hb5 : Below w.heap.size w w5 := HB.out.trans (b5.mono (by simp; omega))
  have hs5 := hb5.size
  obtain ⟨y0, y1, y2, y3⟩ := Vr.cells r0
  have HR0' : Hid (Vr w5 w.heap.size a b c p) := r0
  have HR1' : Hid (Vr w5 (w.heap.size + 1) 0 0 0 ⟨#[]⟩) := r1
  have l0 := Vr.lt r0
  have l1 := Vr.lt r1
  clear HR0 HR1 HB q b5 r0 r1
  have t1 : Vr (w5.alloc (.cells (vc 0 0 0 ⟨#[]⟩) 29)) w5.heap.size 0 0 0 ⟨#[]⟩ := heap_alloc_new w5 _
  have t2 : Vr ((w5.alloc (.cells (vc 0 0 0 ⟨#[]⟩) 29)).setRow w5.heap.size (vc (a + 1) 0 0 ⟨#[]⟩)) w5.heap.size (a + 1) 0 0 ⟨#[]⟩ := Vr.row t1 (a + 1) 0 0 ⟨#[]⟩
  have bZ : Below w5.heap.size w5 ((w5.alloc (.cells (vc 0 0 0 ⟨#[]⟩) 29)).setRow w5.heap.size (vc (a + 1) 0 0 ⟨#[]⟩)) := below_setRow ((Below.refl _ _).alloc (Nat.le_refl _) _) (Nat.le_refl _) _
  have T0 : Hid (Vr ((w5.alloc (.cells (vc 0 0 0 ⟨#[]⟩) 29)).setRow w5.heap.size (vc (a + 1) 0 0 ⟨#[]⟩)) w.heap.size a b c p) := Vr.same HR0'.out bZ
  have T1 : Hid (Vr ((w5.alloc (.cells (vc 0 0 0 ⟨#[]⟩) 29)).setRow w5.heap.size (vc (a + 1) 0 0 ⟨#[]⟩)) (w.heap.size + 1) 0 0 0 ⟨#[]⟩) := Vr.same HR1'.out bZ
  have BZ : Hid (Below w.heap.size w ((w5.alloc (.cells (vc 0 0 0 ⟨#[]⟩) 29)).setRow w5.heap.size (vc (a + 1) 0 0 ⟨#[]⟩))) := hb5.trans (bZ.mono hs5)
  have SZ : Hid (w5.heap.size ≤ ((w5.alloc (.cells (vc 0 0 0 ⟨#[]⟩) 29)).setRow w5.heap.size (vc (a + 1) 0 0 ⟨#[]⟩)).heap.size) := bZ.size
  clear bZ
  go_wp2_with (first | (refine wpList_store_row rfl 29 _ _ rfl w5.heap.size (vc (a + 1) 0 0 ⟨#[]⟩) rfl rfl 29 (vc 0 0 0 ⟨#[]⟩) t1 (sizeV (a + 1) 0 0 ⟨#[]⟩) rfl (oneV (a + 1) 0 0 ⟨#[]⟩) ?_) | (refine wpList_load_row rfl 29 _ rfl w5.heap.size rfl 29 (vc (a + 1) 0 0 ⟨#[]⟩) (0, 0) _ t2 Try.underlying29 rfl (sizeV (a + 1) 0 0 ⟨#[]⟩) ?_))
  refine (q2 _).mono ?_
  rintro e w6 ⟨rfl, b6⟩
  have s0 : Vr w6 w.heap.size a b c p := Vr.same T0.out b6
  have s1 : Vr w6 (w.heap.size + 1) 0 0 0 ⟨#[]⟩ := Vr.same T1.out b6
  have s5 : Vr w6 w5.heap.size (a + 1) 0 0 ⟨#[]⟩ := Vr.same t2 b6
  have hb6 : Below w.heap.size w w6 := BZ.out.trans (b6.mono (Nat.le_trans hs5 SZ.out))
  clear q2 y0 y1 y2 y3 HR0' HR1' b6 t1 t2 T0 T1 BZ SZ
  cases ok2
  · have hx := hb6
    go_wp2_with (first | (refine wpList_load_row rfl 29 _ rfl w.heap.size rfl 29 (vc a b c p) (0, 0) _ s0 Try.underlying29 rfl (sizeV a b c p) ?_) | (refine wpList_store_row rfl 29 _ _ rfl (w.heap.size + 1) (vc a b c p) rfl rfl 29 (vc 0 0 0 ⟨#[]⟩) s1 (sizeV a b c p) rfl (oneV a b c p) ?_))
    exact bodyPost_ret (v := .agg (vc a b c p)) (results_cell_row rfl _ _ (w.heap.size + 1) 29 _ (0, 0) _ rfl (Vr.row s1 a b c p) Try.underlying29 rfl (sizeV a b c p)) rfl ⟨rfl, below_setRow hb6 (by omega) _⟩
  · have hx := hb6
    go_wp2_with (first | (refine wpList_load_row rfl 29 _ rfl w5.heap.size rfl 29 (vc (a + 1) 0 0 ⟨#[]⟩) (0, 0) _ s5 Try.underlying29 rfl (sizeV (a + 1) 0 0 ⟨#[]⟩) ?_) | (refine wpList_store_row rfl 29 _ _ rfl (w.heap.size + 1) (vc (a + 1) 0 0 ⟨#[]⟩) rfl rfl 29 (vc 0 0 0 ⟨#[]⟩) s1 (sizeV (a + 1) 0 0 ⟨#[]⟩) rfl (oneV (a + 1) 0 0 ⟨#[]⟩) ?_))
    exact bodyPost_ret (v := .agg (vc (a + 1) 0 0 ⟨#[]⟩)) (results_cell_row rfl _ _ (w.heap.size + 1) 29 _ (0, 0) _ rfl (Vr.row s1 (a + 1) 0 0 ⟨#[]⟩) Try.underlying29 rfl (sizeV (a + 1) 0 0 ⟨#[]⟩)) rfl ⟨rfl, below_setRow hb6 (by omega) _⟩

set_option maxRecDepth 1000000 in
set_option maxHeartbeats 1000000 in
theorem bumpI_1 (w : World) (a b c : Int) (p : ByteArray) (part : Int) (hp : p.size ≤ 1000000000000) (hok : okV a b c p = true) (h0 : part = 1) :
    Calls Try.prog 9 #[ver a b c p, .int .i64 part] w fun e w' => e = .returned (if okV a (b + 1) 0 ⟨#[]⟩ = true then ver a (b + 1) 0 ⟨#[]⟩ else ver a b c p) ∧ Below w.heap.size w w' := by
  have q2 : ∀ W, _ := fun W => ok_impl W a (b + 1) 0 ⟨#[]⟩ (by show (0 : Nat) ≤ _; omega)
  obtain ⟨ok2, hok2⟩ : ∃ x, okV a (b + 1) 0 ⟨#[]⟩ = x := ⟨_, rfl⟩
  rw [hok2] at q2 ⊢
  clear hok2
  unfold ver at q2 ⊢
  have d0 : (part == 0) = false := by simp; omega
  have d1 : (part == 1) = true := by simpa using h0
  clear h0
  obtain ⟨hA, hB', hC⟩ : (∃ n : Nat, a = (n : Int) ∧ n ≤ 1000000) ∧ (∃ n : Nat, b = (n : Int) ∧ n ≤ 1000000) ∧ (∃ n : Nat, c = (n : Int) ∧ n ≤ 1000000) := by
    have h3 := hok
    unfold okV at h3
    simp only [Bool.and_eq_true] at h3
    exact ⟨inM_nat h3.1.1.1, inM_nat h3.1.1.2, inM_nat h3.1.2⟩
  have qa : 0 ≤ a ∧ a ≤ 1000000 := by obtain ⟨n, rfl, h⟩ := hA; omega
  have qb : 0 ≤ b ∧ b ≤ 1000000 := by obtain ⟨n, rfl, h⟩ := hB'; omega
  have qc : 0 ≤ c ∧ c ≤ 1000000 := by obtain ⟨n, rfl, h⟩ := hC; omega
  have q := ok_impl ((w.alloc (.cells #[.int .i64 a, .int .i64 b, .int .i64 c, .string p] 29)).alloc (.cells #[.int .i64 0, .int .i64 0, .int .i64 0, .string ⟨#[]⟩] 29)) a b c p hp
  rw [hok] at q
  have HR0 : Hid (Vr ((w.alloc (.cells #[.int .i64 a, .int .i64 b, .int .i64 c, .string p] 29)).alloc (.cells #[.int .i64 0, .int .i64 0, .int .i64 0, .string ⟨#[]⟩] 29)) w.heap.size a b c p) := Vr.same (w := w.alloc (.cells (vc a b c p) 29)) (heap_alloc_new w _) ((Below.refl _ _).alloc (Nat.le_refl _) _)
  have HR1 : Hid (Vr ((w.alloc (.cells #[.int .i64 a, .int .i64 b, .int .i64 c, .string p] 29)).alloc (.cells #[.int .i64 0, .int .i64 0, .int .i64 0, .string ⟨#[]⟩] 29)) (w.heap.size + 1) 0 0 0 ⟨#[]⟩) := heap_alloc2_new w _ _
  have HB : Hid (Below w.heap.size w ((w.alloc (.cells #[.int .i64 a, .int .i64 b, .int .i64 c, .string p] 29)).alloc (.cells #[.int .i64 0, .int .i64 0, .int .i64 0, .string ⟨#[]⟩] 29))) := ((Below.refl _ _).alloc (Nat.le_refl _) _).alloc (by simp) _
  unfold ver at q
  clear hok hA hB' hC
  go_enter Try.func9, Try.ntmps9
  go_wp2_with fail
  refine q.mono ?_
  rintro e w5 ⟨rfl, b5⟩
  have r0 := Vr.same HR0.out b5
  have r1 := Vr.same HR1.out b5
  have hb5 : Below w.heap.size w w5 := HB.out.trans (b5.mono (by simp; omega))
  have hs5 := hb5.size
  obtain ⟨y0, y1, y2, y3⟩ := Vr.cells r0
  have HR0' : Hid (Vr w5 w.heap.size a b c p) := r0
  have HR1' : Hid (Vr w5 (w.heap.size + 1) 0 0 0 ⟨#[]⟩) := r1
  have l0 := Vr.lt r0
  have l1 := Vr.lt r1
  clear HR0 HR1 HB q b5 r0 r1
  have t1 : Vr (w5.alloc (.cells (vc 0 0 0 ⟨#[]⟩) 29)) w5.heap.size 0 0 0 ⟨#[]⟩ := heap_alloc_new w5 _
  have t2 : Vr ((w5.alloc (.cells (vc 0 0 0 ⟨#[]⟩) 29)).setRow w5.heap.size (vc a (b + 1) 0 ⟨#[]⟩)) w5.heap.size a (b + 1) 0 ⟨#[]⟩ := Vr.row t1 a (b + 1) 0 ⟨#[]⟩
  have bZ : Below w5.heap.size w5 ((w5.alloc (.cells (vc 0 0 0 ⟨#[]⟩) 29)).setRow w5.heap.size (vc a (b + 1) 0 ⟨#[]⟩)) := below_setRow ((Below.refl _ _).alloc (Nat.le_refl _) _) (Nat.le_refl _) _
  have T0 : Hid (Vr ((w5.alloc (.cells (vc 0 0 0 ⟨#[]⟩) 29)).setRow w5.heap.size (vc a (b + 1) 0 ⟨#[]⟩)) w.heap.size a b c p) := Vr.same HR0'.out bZ
  have T1 : Hid (Vr ((w5.alloc (.cells (vc 0 0 0 ⟨#[]⟩) 29)).setRow w5.heap.size (vc a (b + 1) 0 ⟨#[]⟩)) (w.heap.size + 1) 0 0 0 ⟨#[]⟩) := Vr.same HR1'.out bZ
  have BZ : Hid (Below w.heap.size w ((w5.alloc (.cells (vc 0 0 0 ⟨#[]⟩) 29)).setRow w5.heap.size (vc a (b + 1) 0 ⟨#[]⟩))) := hb5.trans (bZ.mono hs5)
  have SZ : Hid (w5.heap.size ≤ ((w5.alloc (.cells (vc 0 0 0 ⟨#[]⟩) 29)).setRow w5.heap.size (vc a (b + 1) 0 ⟨#[]⟩)).heap.size) := bZ.size
  clear bZ
  go_wp2_with (first | (refine wpList_store_row rfl 29 _ _ rfl w5.heap.size (vc a (b + 1) 0 ⟨#[]⟩) rfl rfl 29 (vc 0 0 0 ⟨#[]⟩) t1 (sizeV a (b + 1) 0 ⟨#[]⟩) rfl (oneV a (b + 1) 0 ⟨#[]⟩) ?_) | (refine wpList_load_row rfl 29 _ rfl w5.heap.size rfl 29 (vc a (b + 1) 0 ⟨#[]⟩) (0, 0) _ t2 Try.underlying29 rfl (sizeV a (b + 1) 0 ⟨#[]⟩) ?_))
  refine (q2 _).mono ?_
  rintro e w6 ⟨rfl, b6⟩
  have s0 : Vr w6 w.heap.size a b c p := Vr.same T0.out b6
  have s1 : Vr w6 (w.heap.size + 1) 0 0 0 ⟨#[]⟩ := Vr.same T1.out b6
  have s5 : Vr w6 w5.heap.size a (b + 1) 0 ⟨#[]⟩ := Vr.same t2 b6
  have hb6 : Below w.heap.size w w6 := BZ.out.trans (b6.mono (Nat.le_trans hs5 SZ.out))
  clear q2 y0 y1 y2 y3 HR0' HR1' b6 t1 t2 T0 T1 BZ SZ
  cases ok2
  · have hx := hb6
    go_wp2_with (first | (refine wpList_load_row rfl 29 _ rfl w.heap.size rfl 29 (vc a b c p) (0, 0) _ s0 Try.underlying29 rfl (sizeV a b c p) ?_) | (refine wpList_store_row rfl 29 _ _ rfl (w.heap.size + 1) (vc a b c p) rfl rfl 29 (vc 0 0 0 ⟨#[]⟩) s1 (sizeV a b c p) rfl (oneV a b c p) ?_))
    exact bodyPost_ret (v := .agg (vc a b c p)) (results_cell_row rfl _ _ (w.heap.size + 1) 29 _ (0, 0) _ rfl (Vr.row s1 a b c p) Try.underlying29 rfl (sizeV a b c p)) rfl ⟨rfl, below_setRow hb6 (by omega) _⟩
  · have hx := hb6
    go_wp2_with (first | (refine wpList_load_row rfl 29 _ rfl w5.heap.size rfl 29 (vc a (b + 1) 0 ⟨#[]⟩) (0, 0) _ s5 Try.underlying29 rfl (sizeV a (b + 1) 0 ⟨#[]⟩) ?_) | (refine wpList_store_row rfl 29 _ _ rfl (w.heap.size + 1) (vc a (b + 1) 0 ⟨#[]⟩) rfl rfl 29 (vc 0 0 0 ⟨#[]⟩) s1 (sizeV a (b + 1) 0 ⟨#[]⟩) rfl (oneV a (b + 1) 0 ⟨#[]⟩) ?_))
    exact bodyPost_ret (v := .agg (vc a (b + 1) 0 ⟨#[]⟩)) (results_cell_row rfl _ _ (w.heap.size + 1) 29 _ (0, 0) _ rfl (Vr.row s1 a (b + 1) 0 ⟨#[]⟩) Try.underlying29 rfl (sizeV a (b + 1) 0 ⟨#[]⟩)) rfl ⟨rfl, below_setRow hb6 (by omega) _⟩

set_option maxRecDepth 1000000 in
set_option maxHeartbeats 1000000 in
theorem bumpI_2 (w : World) (a b c : Int) (p : ByteArray) (part : Int) (hp : p.size ≤ 1000000000000) (hok : okV a b c p = true) (h0 : part = 2) :
    Calls Try.prog 9 #[ver a b c p, .int .i64 part] w fun e w' => e = .returned (if okV a b (c + 1) ⟨#[]⟩ = true then ver a b (c + 1) ⟨#[]⟩ else ver a b c p) ∧ Below w.heap.size w w' := by
  have q2 : ∀ W, _ := fun W => ok_impl W a b (c + 1) ⟨#[]⟩ (by show (0 : Nat) ≤ _; omega)
  obtain ⟨ok2, hok2⟩ : ∃ x, okV a b (c + 1) ⟨#[]⟩ = x := ⟨_, rfl⟩
  rw [hok2] at q2 ⊢
  clear hok2
  unfold ver at q2 ⊢
  have d0 : (part == 0) = false := by simp; omega
  have d1 : (part == 1) = false := by simp; omega
  have d2 : (part == 2) = true := by simpa using h0
  clear h0
  obtain ⟨hA, hB', hC⟩ : (∃ n : Nat, a = (n : Int) ∧ n ≤ 1000000) ∧ (∃ n : Nat, b = (n : Int) ∧ n ≤ 1000000) ∧ (∃ n : Nat, c = (n : Int) ∧ n ≤ 1000000) := by
    have h3 := hok
    unfold okV at h3
    simp only [Bool.and_eq_true] at h3
    exact ⟨inM_nat h3.1.1.1, inM_nat h3.1.1.2, inM_nat h3.1.2⟩
  have qa : 0 ≤ a ∧ a ≤ 1000000 := by obtain ⟨n, rfl, h⟩ := hA; omega
  have qb : 0 ≤ b ∧ b ≤ 1000000 := by obtain ⟨n, rfl, h⟩ := hB'; omega
  have qc : 0 ≤ c ∧ c ≤ 1000000 := by obtain ⟨n, rfl, h⟩ := hC; omega
  have q := ok_impl ((w.alloc (.cells #[.int .i64 a, .int .i64 b, .int .i64 c, .string p] 29)).alloc (.cells #[.int .i64 0, .int .i64 0, .int .i64 0, .string ⟨#[]⟩] 29)) a b c p hp
  rw [hok] at q
  have HR0 : Hid (Vr ((w.alloc (.cells #[.int .i64 a, .int .i64 b, .int .i64 c, .string p] 29)).alloc (.cells #[.int .i64 0, .int .i64 0, .int .i64 0, .string ⟨#[]⟩] 29)) w.heap.size a b c p) := Vr.same (w := w.alloc (.cells (vc a b c p) 29)) (heap_alloc_new w _) ((Below.refl _ _).alloc (Nat.le_refl _) _)
  have HR1 : Hid (Vr ((w.alloc (.cells #[.int .i64 a, .int .i64 b, .int .i64 c, .string p] 29)).alloc (.cells #[.int .i64 0, .int .i64 0, .int .i64 0, .string ⟨#[]⟩] 29)) (w.heap.size + 1) 0 0 0 ⟨#[]⟩) := heap_alloc2_new w _ _
  have HB : Hid (Below w.heap.size w ((w.alloc (.cells #[.int .i64 a, .int .i64 b, .int .i64 c, .string p] 29)).alloc (.cells #[.int .i64 0, .int .i64 0, .int .i64 0, .string ⟨#[]⟩] 29))) := ((Below.refl _ _).alloc (Nat.le_refl _) _).alloc (by simp) _
  unfold ver at q
  clear hok hA hB' hC
  go_enter Try.func9, Try.ntmps9
  go_wp2_with fail
  refine q.mono ?_
  rintro e w5 ⟨rfl, b5⟩
  have r0 := Vr.same HR0.out b5
  have r1 := Vr.same HR1.out b5
  have hb5 : Below w.heap.size w w5 := HB.out.trans (b5.mono (by simp; omega))
  have hs5 := hb5.size
  obtain ⟨y0, y1, y2, y3⟩ := Vr.cells r0
  have HR0' : Hid (Vr w5 w.heap.size a b c p) := r0
  have HR1' : Hid (Vr w5 (w.heap.size + 1) 0 0 0 ⟨#[]⟩) := r1
  have l0 := Vr.lt r0
  have l1 := Vr.lt r1
  clear HR0 HR1 HB q b5 r0 r1
  have t1 : Vr (w5.alloc (.cells (vc 0 0 0 ⟨#[]⟩) 29)) w5.heap.size 0 0 0 ⟨#[]⟩ := heap_alloc_new w5 _
  have t2 : Vr ((w5.alloc (.cells (vc 0 0 0 ⟨#[]⟩) 29)).setRow w5.heap.size (vc a b (c + 1) ⟨#[]⟩)) w5.heap.size a b (c + 1) ⟨#[]⟩ := Vr.row t1 a b (c + 1) ⟨#[]⟩
  have bZ : Below w5.heap.size w5 ((w5.alloc (.cells (vc 0 0 0 ⟨#[]⟩) 29)).setRow w5.heap.size (vc a b (c + 1) ⟨#[]⟩)) := below_setRow ((Below.refl _ _).alloc (Nat.le_refl _) _) (Nat.le_refl _) _
  have T0 : Hid (Vr ((w5.alloc (.cells (vc 0 0 0 ⟨#[]⟩) 29)).setRow w5.heap.size (vc a b (c + 1) ⟨#[]⟩)) w.heap.size a b c p) := Vr.same HR0'.out bZ
  have T1 : Hid (Vr ((w5.alloc (.cells (vc 0 0 0 ⟨#[]⟩) 29)).setRow w5.heap.size (vc a b (c + 1) ⟨#[]⟩)) (w.heap.size + 1) 0 0 0 ⟨#[]⟩) := Vr.same HR1'.out bZ
  have BZ : Hid (Below w.heap.size w ((w5.alloc (.cells (vc 0 0 0 ⟨#[]⟩) 29)).setRow w5.heap.size (vc a b (c + 1) ⟨#[]⟩))) := hb5.trans (bZ.mono hs5)
  have SZ : Hid (w5.heap.size ≤ ((w5.alloc (.cells (vc 0 0 0 ⟨#[]⟩) 29)).setRow w5.heap.size (vc a b (c + 1) ⟨#[]⟩)).heap.size) := bZ.size
  clear bZ
  go_wp2_with (first | (refine wpList_store_row rfl 29 _ _ rfl w5.heap.size (vc a b (c + 1) ⟨#[]⟩) rfl rfl 29 (vc 0 0 0 ⟨#[]⟩) t1 (sizeV a b (c + 1) ⟨#[]⟩) rfl (oneV a b (c + 1) ⟨#[]⟩) ?_) | (refine wpList_load_row rfl 29 _ rfl w5.heap.size rfl 29 (vc a b (c + 1) ⟨#[]⟩) (0, 0) _ t2 Try.underlying29 rfl (sizeV a b (c + 1) ⟨#[]⟩) ?_))
  refine (q2 _).mono ?_
  rintro e w6 ⟨rfl, b6⟩
  have s0 : Vr w6 w.heap.size a b c p := Vr.same T0.out b6
  have s1 : Vr w6 (w.heap.size + 1) 0 0 0 ⟨#[]⟩ := Vr.same T1.out b6
  have s5 : Vr w6 w5.heap.size a b (c + 1) ⟨#[]⟩ := Vr.same t2 b6
  have hb6 : Below w.heap.size w w6 := BZ.out.trans (b6.mono (Nat.le_trans hs5 SZ.out))
  clear q2 y0 y1 y2 y3 HR0' HR1' b6 t1 t2 T0 T1 BZ SZ
  cases ok2
  · have hx := hb6
    go_wp2_with (first | (refine wpList_load_row rfl 29 _ rfl w.heap.size rfl 29 (vc a b c p) (0, 0) _ s0 Try.underlying29 rfl (sizeV a b c p) ?_) | (refine wpList_store_row rfl 29 _ _ rfl (w.heap.size + 1) (vc a b c p) rfl rfl 29 (vc 0 0 0 ⟨#[]⟩) s1 (sizeV a b c p) rfl (oneV a b c p) ?_))
    exact bodyPost_ret (v := .agg (vc a b c p)) (results_cell_row rfl _ _ (w.heap.size + 1) 29 _ (0, 0) _ rfl (Vr.row s1 a b c p) Try.underlying29 rfl (sizeV a b c p)) rfl ⟨rfl, below_setRow hb6 (by omega) _⟩
  · have hx := hb6
    go_wp2_with (first | (refine wpList_load_row rfl 29 _ rfl w5.heap.size rfl 29 (vc a b (c + 1) ⟨#[]⟩) (0, 0) _ s5 Try.underlying29 rfl (sizeV a b (c + 1) ⟨#[]⟩) ?_) | (refine wpList_store_row rfl 29 _ _ rfl (w.heap.size + 1) (vc a b (c + 1) ⟨#[]⟩) rfl rfl 29 (vc 0 0 0 ⟨#[]⟩) s1 (sizeV a b (c + 1) ⟨#[]⟩) rfl (oneV a b (c + 1) ⟨#[]⟩) ?_))
    exact bodyPost_ret (v := .agg (vc a b (c + 1) ⟨#[]⟩)) (results_cell_row rfl _ _ (w.heap.size + 1) 29 _ (0, 0) _ rfl (Vr.row s1 a b (c + 1) ⟨#[]⟩) Try.underlying29 rfl (sizeV a b (c + 1) ⟨#[]⟩)) rfl ⟨rfl, below_setRow hb6 (by omega) _⟩

set_option maxRecDepth 1000000 in
set_option maxHeartbeats 1000000 in
theorem bumpI_x (w : World) (a b c : Int) (p : ByteArray) (part : Int) (hp : p.size ≤ 1000000000000) (hok : okV a b c p = true) (h0 : ¬ part = 0) (h1 : ¬ part = 1) (h2 : ¬ part = 2) :
    Calls Try.prog 9 #[ver a b c p, .int .i64 part] w fun e w' => e = .returned (ver a b c p) ∧ Below w.heap.size w w' := by
  unfold ver
  have d0 : (part == 0) = false := by simpa using h0
  have d1 : (part == 1) = false := by simpa using h1
  have d2 : (part == 2) = false := by simpa using h2
  clear h0 h1 h2
  obtain ⟨hA, hB', hC⟩ : (∃ n : Nat, a = (n : Int) ∧ n ≤ 1000000) ∧ (∃ n : Nat, b = (n : Int) ∧ n ≤ 1000000) ∧ (∃ n : Nat, c = (n : Int) ∧ n ≤ 1000000) := by
    have h3 := hok
    unfold okV at h3
    simp only [Bool.and_eq_true] at h3
    exact ⟨inM_nat h3.1.1.1, inM_nat h3.1.1.2, inM_nat h3.1.2⟩
  have qa : 0 ≤ a ∧ a ≤ 1000000 := by obtain ⟨n, rfl, h⟩ := hA; omega
  have qb : 0 ≤ b ∧ b ≤ 1000000 := by obtain ⟨n, rfl, h⟩ := hB'; omega
  have qc : 0 ≤ c ∧ c ≤ 1000000 := by obtain ⟨n, rfl, h⟩ := hC; omega
  have q := ok_impl ((w.alloc (.cells #[.int .i64 a, .int .i64 b, .int .i64 c, .string p] 29)).alloc (.cells #[.int .i64 0, .int .i64 0, .int .i64 0, .string ⟨#[]⟩] 29)) a b c p hp
  rw [hok] at q
  have HR0 : Hid (Vr ((w.alloc (.cells #[.int .i64 a, .int .i64 b, .int .i64 c, .string p] 29)).alloc (.cells #[.int .i64 0, .int .i64 0, .int .i64 0, .string ⟨#[]⟩] 29)) w.heap.size a b c p) := Vr.same (w := w.alloc (.cells (vc a b c p) 29)) (heap_alloc_new w _) ((Below.refl _ _).alloc (Nat.le_refl _) _)
  have HR1 : Hid (Vr ((w.alloc (.cells #[.int .i64 a, .int .i64 b, .int .i64 c, .string p] 29)).alloc (.cells #[.int .i64 0, .int .i64 0, .int .i64 0, .string ⟨#[]⟩] 29)) (w.heap.size + 1) 0 0 0 ⟨#[]⟩) := heap_alloc2_new w _ _
  have HB : Hid (Below w.heap.size w ((w.alloc (.cells #[.int .i64 a, .int .i64 b, .int .i64 c, .string p] 29)).alloc (.cells #[.int .i64 0, .int .i64 0, .int .i64 0, .string ⟨#[]⟩] 29))) := ((Below.refl _ _).alloc (Nat.le_refl _) _).alloc (by simp) _
  unfold ver at q
  clear hok hA hB' hC
  go_enter Try.func9, Try.ntmps9
  go_wp2_with fail
  refine q.mono ?_
  rintro e w5 ⟨rfl, b5⟩
  have r0 := Vr.same HR0.out b5
  have r1 := Vr.same HR1.out b5
  have hb5 : Below w.heap.size w w5 := HB.out.trans (b5.mono (by simp; omega))
  have hs5 := hb5.size
  obtain ⟨y0, y1, y2, y3⟩ := Vr.cells r0
  have HR0' : Hid (Vr w5 w.heap.size a b c p) := r0
  have HR1' : Hid (Vr w5 (w.heap.size + 1) 0 0 0 ⟨#[]⟩) := r1
  have l0 := Vr.lt r0
  have l1 := Vr.lt r1
  clear HR0 HR1 HB q b5 r0 r1
  have s0 : Vr (w5.alloc (.cells (vc 0 0 0 ⟨#[]⟩) 29)) w.heap.size a b c p := Vr.same HR0'.out ((Below.refl _ _).alloc (Nat.le_refl _) _)
  have s1 : Vr (w5.alloc (.cells (vc 0 0 0 ⟨#[]⟩) 29)) (w.heap.size + 1) 0 0 0 ⟨#[]⟩ := Vr.same HR1'.out ((Below.refl _ _).alloc (Nat.le_refl _) _)
  have hb6 : Below w.heap.size w (w5.alloc (.cells (vc 0 0 0 ⟨#[]⟩) 29)) := hb5.alloc hs5 _
  go_wp2_with (first | (refine wpList_load_row rfl 29 _ rfl w.heap.size rfl 29 (vc a b c p) (0, 0) _ s0 Try.underlying29 rfl (sizeV a b c p) ?_) | (refine wpList_store_row rfl 29 _ _ rfl (w.heap.size + 1) (vc a b c p) rfl rfl 29 (vc 0 0 0 ⟨#[]⟩) s1 (sizeV a b c p) rfl (oneV a b c p) ?_))
  exact bodyPost_ret (v := .agg (vc a b c p)) (results_cell_row rfl _ _ (w.heap.size + 1) 29 _ (0, 0) _ rfl (Vr.row s1 a b c p) Try.underlying29 rfl (sizeV a b c p)) rfl ⟨rfl, below_setRow hb6 (by omega) _⟩

theorem bump_impl (w : World) (a b c : Int) (p : ByteArray) (part : Int) (hp : p.size ≤ 1000000000000) :
    Calls Try.prog 9 #[ver a b c p, .int .i64 part] w fun e w' => e = .returned (verQ (bump a b c p part)) ∧ Below w.heap.size w w' := by
  by_cases hok : okV a b c p = true
  · by_cases h0 : part = 0
    · refine (bumpI_0 w a b c p part hp hok h0).mono fun e w' h => ⟨h.1.trans ?_, h.2⟩
      unfold bump
      rw [if_pos hok, if_pos h0]
      split <;> rfl
    · by_cases h1 : part = 1
      · refine (bumpI_1 w a b c p part hp hok h1).mono fun e w' h => ⟨h.1.trans ?_, h.2⟩
        unfold bump
        rw [if_pos hok, if_neg h0, if_pos h1]
        split <;> rfl
      · by_cases h2 : part = 2
        · refine (bumpI_2 w a b c p part hp hok h2).mono fun e w' h => ⟨h.1.trans ?_, h.2⟩
          unfold bump
          rw [if_pos hok, if_neg h0, if_neg h1, if_pos h2]
          split <;> rfl
        · refine (bumpI_x w a b c p part hp hok h0 h1 h2).mono fun e w' h => ⟨h.1.trans ?_, h.2⟩
          unfold bump
          rw [if_pos hok, if_neg h0, if_neg h1, if_neg h2]
          rfl
  · refine (bumpI_no w a b c p part hp (by simpa using hok)).mono fun e w' h => ⟨h.1.trans ?_, h.2⟩
    unfold bump
    rw [if_neg hok]
    rfl

end Go.Proofs.Ytlhmemnaiobgkaa.Ver

/- Chapter 3: the order of drawn versions, as the landed code tells it; plain facts alone. -/
namespace Go.Proofs.Ytlhmemnaiobgkaa.Ver
open Go.RowKit Go.Proofs.Ytlhmemnaiobgkaa.Mem Go.Proofs.Ytlhmemnaiobgkaa.Laws Go.Proofs.Ytlhmemnaiobgkaa.Bytes Go.Proofs.Ytlhmemnaiobgkaa.Sha
set_option linter.unusedVariables false
set_option linter.unusedSimpArgs false

/-- where a drawn one stands in the order -/
def rank (p : ByteArray) : Int :=
  if p.data.toList = [49] then 0 else if p.data.toList = [50, 46, 120] then 1 else if p.data.toList = [97, 108, 112, 104, 97] then 2 else if p.data.toList = [98, 101, 116, 97, 45, 49] then 3
  else if p.data.toList = [114, 99] then 4 else if p.data.toList = [114, 99, 46, 49] then 5 else if p.data.toList = [114, 99, 46, 50] then 6 else 7

/-- the same as the comparisons of texts, in words that a kernel can reckon -/
def cmpB (a b : List UInt8) : Int := if Op.bytesLess a b = true then -1 else if a = b then 0 else 1
theorem cmpT_B (a b : ByteArray) : cmpT a b = cmpB a.data.toList b.data.toList := by
  unfold cmpT cmpB ltT eqT
  rw [ByteArray.toList_eq, ByteArray.toList_eq]
  simp
def cmpPartB (a b : List UInt8) : Int :=
  if isNum (a.map fun b => (b.toNat : Int)) = true then (if isNum (b.map fun b => (b.toNat : Int)) = true then orL [cmpI a.length b.length, cmpB a b] else -1) else (if isNum (b.map fun b => (b.toNat : Int)) = true then 1 else cmpB a b)
theorem cmpPart_B (a b : ByteArray) : cmpPart a b = cmpPartB a.data.toList b.data.toList := by
  unfold cmpPart cmpPartB
  rw [cmpT_B]
  rfl
def cmpLB : List (List UInt8) → List (List UInt8) → Int
  | [], [] => 0
  | [], _ :: _ => -1
  | _ :: _, [] => 1
  | t :: r, u :: q => if cmpPartB t u = 0 then cmpLB r q else cmpPartB t u
theorem cmpL_B : ∀ (l m : List ByteArray), cmpL l m = cmpLB (l.map (·.data.toList)) (m.map (·.data.toList)) := by
  intro l
  induction l with
  | nil => intro m; cases m <;> rfl
  | cons t r ih =>
    intro m
    cases m with
    | nil => rfl
    | cons u q =>
      simp only [List.map_cons, cmpL, cmpLB, cmpPart_B, ih]
def splitB (l : List UInt8) : List (List UInt8) := (split 46 (l.map fun b => (b.toNat : Int))).map Plain.u8s
theorem splitT_B (s : ByteArray) : (splitT 46 s).map (·.data.toList) = splitB s.data.toList := by
  unfold splitT splitB
  rw [List.map_map]
  rfl
def cmpPreB (a b : List UInt8) : Int := if a = b then 0 else if a.length = 0 then 1 else if b.length = 0 then -1 else cmpLB (splitB a) (splitB b)
theorem cmpPre_B (a b : ByteArray) : cmpPre a b = cmpPreB a.data.toList b.data.toList := by
  unfold cmpPre cmpPreB eqT
  rw [cmpL_B, splitT_B, splitT_B, ByteArray.toList_eq, ByteArray.toList_eq]
  simp

theorem rank_all : (preL.all fun p => preL.all fun q => decide (cmpPreB p.data.toList q.data.toList = cmpI (rank p) (rank q)) && (decide (rank p = rank q) == decide (p.data.toList = q.data.toList))) = true := by decide +kernel
theorem rank_pre {p q : ByteArray} (hp : p ∈ preL) (hq : q ∈ preL) : cmpPre p q = cmpI (rank p) (rank q) ∧ (rank p = rank q ↔ p = q) := by
  have h := List.all_eq_true.1 (List.all_eq_true.1 rank_all p hp) q hq
  rw [Bool.and_eq_true] at h
  refine ⟨by rw [cmpPre_B]; exact of_decide_eq_true h.1, ?_⟩
  have h2 := h.2
  rw [beq_iff_eq, decide_eq_decide] at h2
  rw [h2]
  constructor
  · intro h3; apply ByteArray.ext; apply Array.ext'; exact h3
  · rintro rfl; rfl
theorem pre_ok : (preL.all fun p => decide (p.data.size = 0) || pre (p.data.toList.map fun b => (b.toNat : Int))) = true := by decide +kernel
theorem Dv.ok {a b c : Int} {p : ByteArray} (h : Dv a b c p) : okV a b c p = true := by
  obtain ⟨⟨a0, a1⟩, ⟨b0, b1⟩, ⟨c0, c1⟩, hp⟩ := h
  have h2 := List.all_eq_true.1 pre_ok p hp
  unfold okV inM
  rw [decide_eq_true (show 0 ≤ a ∧ a ≤ 1000000 by omega), decide_eq_true (show 0 ≤ b ∧ b ≤ 1000000 by omega), decide_eq_true (show 0 ≤ c ∧ c ≤ 1000000 by omega)]
  exact h2
theorem Dv.size {a b c : Int} {p : ByteArray} (h : Dv a b c p) : p.size ≤ 8 := preL_size p h.2.2.2
theorem Dv.none {a b c : Int} {p : ByteArray} (h : Dv a b c p) : Dv a b c ⟨#[]⟩ := ⟨h.1, h.2.1, h.2.2.1, by unfold preL; exact List.mem_cons_self ..⟩

/-- less, of drawn ones: four numbers one by one -/
theorem less_D {a1 b1 c1 : Int} {p1 : ByteArray} {a2 b2 c2 : Int} {p2 : ByteArray} (h1 : p1 ∈ preL) (h2 : p2 ∈ preL) :
    decide (cmpV a1 b1 c1 p1 a2 b2 c2 p2 < 0) = decide (a1 < a2 ∨ a1 = a2 ∧ (b1 < b2 ∨ b1 = b2 ∧ (c1 < c2 ∨ c1 = c2 ∧ rank p1 < rank p2))) := by
  apply decide_eq_decide.2
  unfold cmpV
  rw [(rank_pre h1 h2).1]
  simp only [orL, cmpI]
  constructor
  · intro h
    repeat' split at h
    all_goals omega
  · intro h
    repeat' split
    all_goals omega

/-- the specification's comparisons, in words that a kernel can reckon -/
def lessPartB (a b : List UInt8) : Bool :=
  if 0 ≤ number (a.map fun b => (b.toNat : Int)) then (if 0 ≤ number (b.map fun b => (b.toNat : Int)) then decide (number (a.map fun b => (b.toNat : Int)) < number (b.map fun b => (b.toNat : Int))) else true) else (if 0 ≤ number (b.map fun b => (b.toNat : Int)) then false else Op.bytesLess a b)
theorem lessPart_B (a b : ByteArray) : lessPart a b = lessPartB a.data.toList b.data.toList := by
  unfold lessPart lessPartB ltT
  rw [ByteArray.toList_eq, ByteArray.toList_eq]
  rfl
def lessLB : List (List UInt8) → List (List UInt8) → Bool
  | [], [] => false
  | [], _ :: _ => true
  | _ :: _, [] => false
  | t :: r, u :: q => if t = u then lessLB r q else lessPartB t u
theorem lessL_B : ∀ (l m : List ByteArray), lessL l m = lessLB (l.map (·.data.toList)) (m.map (·.data.toList)) := by
  intro l
  induction l with
  | nil => intro m; cases m <;> rfl
  | cons t r ih =>
    intro m
    cases m with
    | nil => rfl
    | cons u q =>
      simp only [List.map_cons, lessL, lessLB, lessPart_B, ih]
      unfold eqT
      rw [ByteArray.toList_eq, ByteArray.toList_eq]
      simp
def lessPreB (a b : List UInt8) : Bool := if a = b then false else if a.length = 0 then false else if b.length = 0 then true else lessLB (splitB a) (splitB b)
theorem rank_less : (preL.all fun p => preL.all fun q => lessPreB p.data.toList q.data.toList == decide (rank p < rank q)) = true := by decide +kernel

theorem lessV_D {a1 b1 c1 : Int} {p1 : ByteArray} {a2 b2 c2 : Int} {p2 : ByteArray} (h1 : p1 ∈ preL) (h2 : p2 ∈ preL) :
    lessV a1 b1 c1 p1 a2 b2 c2 p2 = decide (a1 < a2 ∨ a1 = a2 ∧ (b1 < b2 ∨ b1 = b2 ∧ (c1 < c2 ∨ c1 = c2 ∧ rank p1 < rank p2))) := by
  have h := List.all_eq_true.1 (List.all_eq_true.1 rank_less p1 h1) p2 h2
  rw [beq_iff_eq] at h
  have hp : (if eqT p1 p2 = true ∨ p1.size = 0 then false else if p2.size = 0 then true else lessPre p1 p2) = decide (rank p1 < rank p2) := by
    rw [← h]
    unfold lessPreB lessPre
    rw [lessL_B, splitT_B, splitT_B]
    have e : (eqT p1 p2 = true) ↔ p1.data.toList = p2.data.toList := by
      unfold eqT
      rw [ByteArray.toList_eq, ByteArray.toList_eq]
      simp
    have z1 : p1.data.toList.length = p1.size := by simp
    have z2 : p2.data.toList.length = p2.size := by simp
    rw [z1, z2]
    by_cases h3 : p1.data.toList = p2.data.toList
    · rw [if_pos (.inl (e.2 h3)), if_pos h3]
    · rw [if_neg h3]
      by_cases h4 : p1.size = 0
      · rw [if_pos (.inr h4), if_pos h4]
      · rw [if_neg h4, if_neg]
        rintro (h5 | h5)
        · exact h3 (e.1 h5)
        · exact h4 h5
  unfold lessV
  rw [hp]
  by_cases x1 : a1 = a2
  · by_cases x2 : b1 = b2
    · by_cases x3 : c1 = c2
      · simp [x1, x2, x3]
      · simp [x1, x2, x3]
    · simp [x1, x2]
  · simp [x1]

end Go.Proofs.Ytlhmemnaiobgkaa.Ver

/- Chapter 16: the order of drawn versions. -/
namespace Go.Proofs.Ytlhmemnaiobgkaa.Se
open Go.RowKit Go.Proofs.Ytlhmemnaiobgkaa.Mem Go.Proofs.Ytlhmemnaiobgkaa.Laws Go.Proofs.Ytlhmemnaiobgkaa.Ver Go.Proofs.Ytlhmemnaiobgkaa.Ent Go.Proofs.Ytlhmemnaiobgkaa.Fe Go.Proofs.Ytlhmemnaiobgkaa.Draw
set_option linter.unusedVariables false
set_option linter.unusedSimpArgs false

theorem lv_D {x y : Nd} (hx : x.pre ∈ preL) (hy : y.pre ∈ preL) : lv x y = decide (x.a < y.a ∨ x.a = y.a ∧ (x.b < y.b ∨ x.b = y.b ∧ (x.c < y.c ∨ x.c = y.c ∧ rank x.pre < rank y.pre))) := lessV_D hx hy
theorem lin_pre : Lin fun n => n.pre ∈ preL where
  irr := by
    intro x hx
    rw [lv_D hx hx]
    simp only [decide_eq_false_iff_not]
    omega
  tr := by
    intro x y z hx hy hz
    rw [lv_D hx hy, lv_D hy hz, lv_D hx hz]
    simp only [decide_eq_true_eq]
    generalize rank x.pre = r1
    generalize rank y.pre = r2
    generalize rank z.pre = r3
    omega
  tot := by
    intro x y hx hy hp
    rw [lv_D hx hy, lv_D hy hx]
    simp only [decide_eq_false_iff_not]
    intro h1 h2
    have hr : rank x.pre = rank y.pre → x.pre = y.pre := (rank_pre hx hy).2.1
    generalize rank x.pre = r1 at *
    generalize rank y.pre = r2 at *
    have ha : x.a = y.a := by omega
    have hb : x.b = y.b := by omega
    have hc : x.c = y.c := by omega
    have hp2 := hr (by omega)
    cases x; cases y
    simp_all

end Go.Proofs.Ytlhmemnaiobgkaa.Se
