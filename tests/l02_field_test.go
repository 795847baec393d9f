package tests

import (
	"math"
	"testing"

	"loop.example/g00223/impl"
)

const elements = 256

// pairTable is what a function of two elements answers for all pairs.
type pairTable [elements][elements]int64

// answers fails the test where one of them is no element, so that an answer may
// be asked of further in the table.
func answers(t *testing.T, name string, call func(a int64, b int64) int64) *pairTable {
	t.Helper()
	table := &pairTable{}
	for a := range int64(elements) {
		for b := range int64(elements) {
			table[a][b] = call(a, b)
			if !isElement(table[a][b]) {
				t.Fatalf("%s(%d, %d) is %d, which is no element", name, a, b, table[a][b])
			}
		}
	}
	return table
}

// plainProduct goes by the document's words: the product of the polynomials
// without carry, then multiples of the one with the bits of 301 taken away, the
// highest first.
func plainProduct(a int64, b int64) int64 {
	product := int64(0)
	for i := range 8 {
		if b>>i&1 == 1 {
			product ^= a << i
		}
	}
	for i := 7; i >= 0; i-- {
		if product>>(8+i)&1 == 1 {
			product ^= 301 << i
		}
	}
	return product
}

// plainPower squares its way up, bit by bit of n.
func plainPower(a int64, n int64) int64 {
	power := int64(1)
	for ; n > 0; n /= 2 {
		if n%2 == 1 {
			power = plainProduct(power, a)
		}
		a = plainProduct(a, a)
	}
	return power
}

func wrongElements() []int64 {
	return []int64{
		-1, -2, -255, -256, 256, 257, 301, 511, 512, 1 << 16,
		1 << 32, 1<<32 + 1, 1 << 62, -1 << 32, -1<<32 + 5,
		math.MinInt64, math.MinInt64 + 1, math.MaxInt64, math.MaxInt64 - 254,
	}
}

func isElement(a int64) bool {
	return a >= 0 && a < elements
}

func checkField(t *testing.T, what string, got int64, want int64, arguments ...int64) {
	t.Helper()
	if got != want {
		t.Fatalf("%s%v is %d, not %d", what, arguments, got, want)
	}
}

func TestSumOfSome(t *testing.T) {
	for _, c := range [][3]int64{
		{0, 0, 0}, {0, 1, 1}, {1, 0, 1}, {1, 1, 0}, {5, 3, 6}, {1, 2, 3},
		{2, 2, 0}, {255, 0, 255}, {0, 255, 255}, {255, 1, 254}, {1, 255, 254},
		{255, 255, 0}, {128, 127, 255}, {200, 100, 172}, {128, 128, 0},
	} {
		checkField(t, "Sum", impl.Sum(c[0], c[1]), c[2], c[0], c[1])
	}
}

func TestSumHasTheBitsThatDiffer(t *testing.T) {
	for a := range int64(elements) {
		for b := range int64(elements) {
			want := int64(0)
			for i := range 8 {
				if a>>i&1 != b>>i&1 {
					want += 1 << i
				}
			}
			checkField(t, "Sum", impl.Sum(a, b), want, a, b)
		}
	}
}

func TestProductOfSome(t *testing.T) {
	for _, c := range [][3]int64{
		{0, 0, 0}, {0, 1, 0}, {1, 0, 0}, {0, 255, 0}, {255, 0, 0},
		{1, 1, 1}, {1, 2, 2}, {2, 1, 2}, {1, 255, 255}, {255, 1, 255},
		{2, 2, 4}, {3, 3, 5}, {15, 15, 85}, {2, 64, 128},
		{128, 2, 45}, {2, 128, 45}, {16, 16, 45}, {16, 17, 61}, {255, 2, 211},
		{77, 200, 216}, {200, 77, 216}, {200, 3, 117}, {128, 128, 114},
		{254, 255, 203}, {255, 255, 52},
	} {
		checkField(t, "Product", impl.Product(c[0], c[1]), c[2], c[0], c[1])
	}
}

func TestProductIsThatOfPolynomials(t *testing.T) {
	products := answers(t, "Product", impl.Product)
	for a := range int64(elements) {
		for b := range int64(elements) {
			checkField(t, "Product", products[a][b], plainProduct(a, b), a, b)
		}
	}
}

// The axioms are asked of what Sum and Product answer, with no second reckoning
// beside them.
func TestElementsAreAField(t *testing.T) {
	sums := answers(t, "Sum", impl.Sum)
	products := answers(t, "Product", impl.Product)
	for a := range int64(elements) {
		checkField(t, "Sum", sums[a][0], a, a, 0)
		checkField(t, "Sum", sums[a][a], 0, a, a)
		checkField(t, "Product", products[a][1], a, a, 1)
		checkField(t, "Product", products[a][0], 0, a, 0)
		for b := range int64(elements) {
			checkField(t, "Sum", sums[b][a], sums[a][b], b, a)
			checkField(t, "Product", products[b][a], products[a][b], b, a)
			if a != 0 && b != 0 && products[a][b] == 0 {
				t.Fatalf("the product of %d and %d, neither of them 0, is 0", a, b)
			}
		}
	}
}

func TestThreeElementsOfAField(t *testing.T) {
	sums := answers(t, "Sum", impl.Sum)
	products := answers(t, "Product", impl.Product)
	for a := range int64(elements) {
		for b := range int64(elements) {
			for c := range int64(elements) {
				if sums[sums[a][b]][c] != sums[a][sums[b][c]] {
					t.Fatalf("the sum of %d, %d and %d hangs on which two are taken first", a, b, c)
				}
				if products[products[a][b]][c] != products[a][products[b][c]] {
					t.Fatalf("the product of %d, %d and %d hangs on which two are taken first", a, b, c)
				}
				if products[a][sums[b][c]] != sums[products[a][b]][products[a][c]] {
					t.Fatalf("%d times the sum of %d and %d is not the sum of the products", a, b, c)
				}
			}
		}
	}
}

func TestPowerOfSome(t *testing.T) {
	for _, c := range [][3]int64{
		{2, 0, 1}, {2, 1, 2}, {2, 7, 128}, {2, 8, 45}, {2, 9, 90}, {2, 10, 180},
		{3, 5, 51}, {200, 3, 194}, {255, 0, 1}, {255, 1, 255}, {255, 2, 52},
		{2, 254, 150}, {3, 254, 228}, {255, 254, 156},
		{2, 255, 1}, {3, 255, 1}, {255, 255, 1},
		{2, 256, 2}, {3, 256, 3}, {255, 256, 255},
		{2, 1 << 62, 246}, {3, 1 << 62, 247}, {255, 1 << 62, 85},
		{2, math.MaxInt64, 172}, {3, math.MaxInt64, 44}, {255, math.MaxInt64, 51},
		{1, 0, 1}, {1, 1, 1}, {1, 254, 1}, {1, 256, 1}, {1, 1 << 62, 1}, {1, math.MaxInt64, 1},
	} {
		checkField(t, "Power", impl.Power(c[0], c[1]), c[2], c[0], c[1])
	}
}

func TestPowerOfZero(t *testing.T) {
	checkField(t, "Power", impl.Power(0, 0), 1, 0, 0)
	for _, n := range []int64{1, 2, 3, 254, 255, 256, 510, 255 * 255, 1 << 62, math.MaxInt64, math.MaxInt64 / 255 * 255} {
		checkField(t, "Power", impl.Power(0, n), 0, 0, n)
	}
}

func TestPowerIsTimesItself(t *testing.T) {
	for a := range int64(elements) {
		want := int64(1)
		for n := range int64(600) {
			checkField(t, "Power", impl.Power(a, n), want, a, n)
			want = plainProduct(want, a)
		}
	}
}

func TestPowerOfAGreatNumber(t *testing.T) {
	for a := range int64(elements) {
		for _, n := range []int64{
			255 * 256, 1<<16 - 1, 1 << 16, 1<<31 - 1, 1 << 31, 1<<32 - 1, 1 << 32, 1<<32 + 1,
			1<<62 - 1, 1 << 62, 1<<62 + 1, math.MaxInt64 - 127, math.MaxInt64 - 1, math.MaxInt64,
		} {
			checkField(t, "Power", impl.Power(a, n), plainPower(a, n), a, n)
		}
	}
}

func TestPowerOf255IsOne(t *testing.T) {
	for a := int64(1); a < elements; a++ {
		checkField(t, "Power", impl.Power(a, 255), 1, a, 255)
		product := int64(1)
		for range 255 {
			product = impl.Product(product, a)
		}
		checkField(t, "Product, 255 times, of ", product, 1, a)
	}
}

func TestInverseOfSome(t *testing.T) {
	for _, c := range [][2]int64{
		{0, -1}, {1, 1}, {2, 150}, {150, 2}, {3, 228}, {45, 173}, {128, 119},
		{200, 217}, {254, 41}, {255, 156},
	} {
		checkField(t, "Inverse", impl.Inverse(c[0]), c[1], c[0])
	}
}

func TestInverseMakesOne(t *testing.T) {
	for a := int64(1); a < elements; a++ {
		inverse := impl.Inverse(a)
		if !isElement(inverse) {
			t.Fatalf("Inverse(%d) is %d, which is no element", a, inverse)
		}
		checkField(t, "Product", impl.Product(a, inverse), 1, a, inverse)
		checkField(t, "Product", impl.Product(inverse, a), 1, inverse, a)
		checkField(t, "Inverse", impl.Inverse(inverse), a, inverse)
		checkField(t, "Inverse", inverse, impl.Power(a, 254), a)
	}
}

func TestOverOfSome(t *testing.T) {
	for _, c := range [][3]int64{
		{0, 0, -1}, {1, 0, -1}, {2, 0, -1}, {255, 0, -1},
		{0, 1, 0}, {0, 7, 0}, {0, 255, 0}, {1, 1, 1}, {255, 1, 255},
		{1, 2, 150}, {45, 128, 2}, {45, 2, 128}, {216, 200, 77}, {216, 77, 200},
		{255, 254, 40}, {3, 255, 137}, {255, 255, 1}, {2, 2, 1},
	} {
		checkField(t, "Over", impl.Over(c[0], c[1]), c[2], c[0], c[1])
	}
}

func TestOverUndoesAProduct(t *testing.T) {
	products := answers(t, "Product", impl.Product)
	for a := range int64(elements) {
		checkField(t, "Over", impl.Over(a, 0), -1, a, 0)
		for b := int64(1); b < elements; b++ {
			checkField(t, "Over", impl.Over(products[a][b], b), a, products[a][b], b)
			over := impl.Over(a, b)
			if !isElement(over) {
				t.Fatalf("Over(%d, %d) is %d, which is no element", a, b, over)
			}
			checkField(t, "Product", products[over][b], a, over, b)
		}
	}
}

func TestTwoOfWhichOneIsNoElement(t *testing.T) {
	for _, two := range []struct {
		name string
		call func(a int64, b int64) int64
	}{{"Sum", impl.Sum}, {"Product", impl.Product}, {"Over", impl.Over}} {
		for _, wrong := range wrongElements() {
			for right := range int64(elements) {
				neverPanics(t, two.name, func() {
					checkField(t, two.name, two.call(wrong, right), -1, wrong, right)
					checkField(t, two.name, two.call(right, wrong), -1, right, wrong)
				})
			}
			for _, other := range wrongElements() {
				neverPanics(t, two.name, func() {
					checkField(t, two.name, two.call(wrong, other), -1, wrong, other)
				})
			}
		}
	}
}

func TestInverseOfNoElement(t *testing.T) {
	for _, wrong := range wrongElements() {
		neverPanics(t, "Inverse", func() {
			checkField(t, "Inverse", impl.Inverse(wrong), -1, wrong)
		})
	}
}

func TestPowerOfNoElement(t *testing.T) {
	for _, wrong := range wrongElements() {
		for _, n := range []int64{0, 1, 2, 254, 255, 256, 1 << 62, math.MaxInt64, -1, math.MinInt64} {
			neverPanics(t, "Power", func() {
				checkField(t, "Power", impl.Power(wrong, n), -1, wrong, n)
			})
		}
	}
}

func TestPowerBelowZero(t *testing.T) {
	for a := range int64(elements) {
		for _, n := range []int64{-1, -2, -254, -255, -256, -510, -1 << 32, -1 << 62, math.MinInt64 + 1, math.MinInt64} {
			neverPanics(t, "Power", func() {
				checkField(t, "Power", impl.Power(a, n), -1, a, n)
			})
		}
	}
}

// What a call makes for itself must not show in the next one.
func TestFieldAnswersAgainAlike(t *testing.T) {
	for range 3 {
		checkField(t, "Product", impl.Product(77, 200), 216, 77, 200)
		checkField(t, "Product", impl.Product(200, 3), 117, 200, 3)
		checkField(t, "Product", impl.Product(256, 1), -1, 256, 1)
		checkField(t, "Power", impl.Power(2, 10), 180, 2, 10)
		checkField(t, "Inverse", impl.Inverse(2), 150, 2)
		checkField(t, "Inverse", impl.Inverse(0), -1, 0)
		checkField(t, "Over", impl.Over(255, 254), 40, 255, 254)
	}
}
