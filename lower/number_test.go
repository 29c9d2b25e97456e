package lower_test

import (
	"strconv"
	"strings"
	"testing"
)

func kinds() []string {
	return []string{"char", "unsigned char", "short", "unsigned short", "int", "unsigned int", "long", "unsigned long"}
}

// as tells a number as one of a kind has it.
func as(kind string, n int64) int64 {
	switch kind {
	case "char":
		return int64(int8(n))
	case "unsigned char":
		return int64(uint8(n))
	case "short":
		return int64(int16(n))
	case "unsigned short":
		return int64(uint16(n))
	case "int":
		return int64(int32(n))
	case "unsigned int":
		return int64(uint32(n))
	}
	return n
}

// edges are numbers at which kinds begin and end, and some others.
func edges() []int64 {
	return []int64{0, 1, -1, 5, 127, 128, -128, -129, 255, 256, 32767, 32768, -32769, 65535, 1<<31 - 1, 1 << 31, -1 << 31, -1<<31 - 1, 1<<32 - 1, 1 << 32, 1<<63 - 1, -1 << 63, 0x123456789abcdef}
}

func repeated(n int64, times int) string {
	return strings.TrimSpace(strings.Repeat(strconv.FormatInt(n, 10)+" ", times))
}

// TestKinds is of P8.1: each kind as a global, a local, a parameter, an array's element, what a
// pointer leads to, and what is returned.
func TestKinds(t *testing.T) {
	for _, kind := range kinds() {
		s := strings.ReplaceAll("T g;T a[3];T f(T x){return x;}T h(long x){return x;}T*k(T*q){*q=get();return q;}long m(T x){T*q=&x;put(*q);*q=get();return x;}"+
			"int main(){g=get();put(g);a[1]=get();put(a[1]);T l=get();put(l);l=get();put(l);put(f(get()));put(h(get()));T*p=&g;*p=get();put(g);p=a;p[2]=get();put(*(p+2));put(*k(a));T b[2];b[1]=get();put(b[1]);put(m(get()));"+
			"T*r=&l;*r=get();put(l);put((T)get());put(l=get());put(a[0]=get());put(*r);put(p[0]);put(g&&g||!g);put(sizeof(T));}", "T", kind)
		for _, n := range edges() {
			var in []int64
			for range 20 {
				in = append(in, n)
			}
			size := map[string]string{"char": "1", "short": "2", "int": "4", "long": "8"}[strings.TrimPrefix(kind, "unsigned ")]
			puts(t, s, repeated(as(kind, n), 18)+" 1 "+size, in...)
		}
	}
}

// TestInitial is of P8.1: what globals are at first, and what locals are.
func TestInitial(t *testing.T) {
	for _, kind := range kinds() {
		for _, n := range edges() {
			if n == -1<<63 {
				continue
			}
			v, w := strconv.FormatInt(n, 10), repeated(as(kind, n), 1)
			told := strings.NewReplacer("T", kind, "V", v)
			puts(t, told.Replace("T g=V;T a[4]={1,V,V};T z;T*p=0;T*q[2]={0};int main(){put(g);put(a[0]);put(a[1]);put(a[2]);put(a[3]);put(z);put(p==0);put(!q[0]);put(q[1]==p);}"),
				w+" 1 "+w+" "+w+" 0 0 1 1 1")
			if n >= 0 {
				puts(t, told.Replace("int main(){T l=V;T m;T a[5];T b[4];T*p;put(l);put(m);put(a[0]);put(a[4]);put(b[3]);put(p==0);put(V);}"), w+" 0 0 0 0 1 "+v)
			}
		}
	}
}

// TestConversions is of P8.1: between any two kinds, by assignments, casts, arguments, and what is
// returned.
func TestConversions(t *testing.T) {
	t.Parallel()
	for _, from := range kinds() {
		for _, to := range kinds() {
			s := strings.NewReplacer("A", from, "B", to).Replace("A g;B h;B a[5];B f(A x){return x;}A k(B x){return x;}" +
				"int main(){g=get();put(h=g);put(h);A l=g;B m=l;put(m);m=0;m=l;put(m);put((B)g);put((B)(A)l);put(f(g));k(l);put(a[3]=l);put(a[3]);B*p=a;*p=g;put(a[0]);B c=(A)get();put(c);put((A)(B)g);put(k(l));}")
			for _, n := range edges() {
				x := as(from, n)
				y := as(to, x)
				puts(t, s, repeated(y, 11)+" "+repeated(as(from, y), 2), n, n)
			}
		}
	}
}

// TestOperators is of P8.1: each operator, and each op of an assignment, on numbers of any two
// kinds, global ones and local ones, against the model.
func TestOperators(t *testing.T) {
	t.Parallel()
	in := edges()
	ops := strings.Fields("+ - * / % & | ^ << >> < <= > >= == != && ||")
	assigned := strings.Fields("+ - * / % & | ^ << >>")
	for _, a := range kinds() {
		for _, b := range kinds() {
			pure, steps := "", ""
			for _, op := range ops {
				pure += "put(x" + op + "y);"
			}
			for _, op := range assigned {
				steps += "x=get();put(x" + op + "=y);put(x);g=x;g" + op + "=y;put(g);"
			}
			body := "put(-x);put(~x);put(!x);put(x?x:y);put(y?y:x);"
			operators := a + " x;int main(){" + b + " y;int i;for(i=0;i<24;i++){x=get();y=get();" + pure + body + "}}"
			assignments := a + " g;int main(){int i;" + a + " x;" + b + " y;for(i=0;i<3;i++){y=get();" + steps + "}}"
			for i, m := range in {
				var l []int64
				for _, n := range in {
					l = append(l, m, n)
				}
				if o, _ := holds(t, operators, l...); len(o.Out) < 200 {
					t.Errorf("%q: %s", operators, show(o))
				}
				n := in[(i*5+2)%len(in)]
				var few []int64
				for k := range 3 {
					few = append(few, in[(i+k*8)%len(in)])
					for range assigned {
						few = append(few, n)
					}
				}
				if o, _ := holds(t, assignments, few...); len(o.Out) < 90 {
					t.Errorf("%q: %s", assignments, show(o))
				}
			}
		}
	}
}

// TestEdges is of P8.1: division and rest by 0 and of the least by -1, shifts by 0, by a width, and
// beyond it, each kind's least and greatest number, in numbers that are told at once and later.
func TestEdges(t *testing.T) {
	decls := "int i=2147483648;int n=-1;int z;unsigned int u=-1;unsigned int v;long l=-9223372036854775807;long m=-1;long y;unsigned long w=-1;unsigned char c=200;char d=-128;"
	for expr, want := range map[string]string{
		"i/n": "-2147483648", "i%n": "0", "i/z": "-1", "i%z": "-2147483648", "7/0": "-1", "7%0": "7", "(0-7)%0": "-7",
		"(-2147483647-1)/-1": "-2147483648", "(-2147483647-1)%-1": "0", "u/v": "4294967295", "u%v": "4294967295", "u/n": "1", "v/0": "4294967295", "5/v": "4294967295",
		"(l-1)/m": "-9223372036854775808", "(l-1)%m": "0", "l/y": "-1", "l%y": "-9223372036854775807", "w/y": "-1", "w%y": "-1", "w/2": "9223372036854775807", "d/n": "128", "d/-1": "128", "c/0": "-1",
		"1<<0": "1", "1<<31": "-2147483648", "1<<32": "1", "1<<33": "2", "1<<-1": "-2147483648", "n>>0": "-1", "n>>31": "-1", "n>>32": "-1", "i>>31": "-1", "i>>33": "-1073741824",
		"u<<0": "4294967295", "u<<31": "2147483648", "u<<32": "4294967295", "u>>31": "1", "u>>32": "4294967295", "u>>-1": "1",
		"m<<63": "-9223372036854775808", "m<<64": "-1", "m<<65": "-2", "l>>63": "-1", "l>>64": "-9223372036854775807", "w>>63": "1", "w>>64": "-1", "w>>(w-1)": "3", "(long)1<<32": "4294967296", "1<<w": "-2147483648", "c<<24": "-939524096", "c<<25": "-1879048192", "d>>7": "-1", "d>>39": "-1",
		"2147483647+1": "-2147483648", "i-1": "2147483647", "-i": "-2147483648", "i*n": "-2147483648", "65536*65536": "0", "u+1": "0", "v-1": "4294967295", "-u": "1", "-v": "0", "u*u": "1", "~u": "0", "~v": "4294967295", "~i": "2147483647", "l-2": "9223372036854775807", "-(l-1)": "-9223372036854775808", "w+1": "0", "c+c": "400", "d-1": "-129", "-d": "128", "~c": "-201", "~d": "127",
		"n<u": "0", "n==u": "1", "n<v": "0", "n<1": "1", "u>0": "1", "u>n": "0", "m<w": "0", "m==w": "1", "m<u": "1", "c>d": "1", "d==128": "0", "u==4294967295": "1", "n==4294967295": "0", "w==-1": "1", "w>m": "0", "w>0": "1", "2147483648>2147483647": "1",
		"!i": "0", "!z": "1", "!w": "0", "i&&z": "0", "y||z": "0", "n&&w": "1", "z?i:u": "4294967295", "n?i:u": "2147483648", "n?d:c": "-128", "n?n:w": "-1", "n?n:u": "4294967295",
	} {
		mainPuts(t, decls, "put("+expr+");", want)
		mainPuts(t, "", decls+"put("+expr+");", want)
		mainPuts(t, "", decls+"&i;&n;&z;&u;&v;&l;&m;&y;&w;&c;&d;put("+expr+");", want)
	}
}
